/- Several texts of one claim in one file: WTreeR, WNestS, MemPutT, MemOkR, WCopyV. -/
import Derived.Test.YtggadpalljhiaaaGreatDoorWTreeS
import Derived.Test.YtggadpalljhiaaaGreatDoorG04
import Derived.Test.YtggadpalljhiaaaGreatDoorG03
import Derived.Test.YtggadpalljhiaaaGreatDoorProg
import Derived.Deep.RegionHeld3
import Derived.Test.YtggadpalljhiaaaGreatDoorG00
import Derived.Below
import Derived.Laws.AppendOwnNone
namespace Go.Proofs.YtggadpalljhiaaaGreatDoor
section
open Go.RowKit
namespace WTreeS
theorem right_tree (a:Option Addr) (cap:Nat) (L:List Pl.Nd) (w:World) (hl:L.length≤1048576) (hv:Mem.za7 w a L) (hok:∀n∈L,n.path.size≤1048576∧n.data.size≤1048576):
  Calls Tryz.prog 72 #[.agg #[.slice a L.length cap]] w fun e w'=>e= .returned (.bool (Pl.ze2 L))∧Below w.heap.size w w':=by
 have h:=zg7 a cap L w hl hv hok;rw [Pl.tree_same] at h;exact h
end WTreeS
end
section
open Go.RowKit
namespace WNestS
set_option maxRecDepth 100000 in
theorem item_any (m:Int) (a:Option Addr) (cap:Nat) (L:List Pl.Nd) (w:World) (hl:L.length≤1048576) (hv:Mem.za7 w a L) (hok:∀n∈L,n.path.size≤1048576∧n.data.size≤1048576):
  Calls Tryz.prog 54 #[.agg #[.int .i64 m, .slice a L.length cap]] w fun e w'=>e= .returned (.bool (Pl.ze7 m L))∧Below w.heap.size w w':=by
 have b0:∀o,Below w.heap.size w (w.alloc o):=fun o=>(Below.refl _ _).alloc (Nat.le_refl _) o;have HB:=hide b0;by_cases h0:m=0
 ·subst h0;rw [Pl.ya2];have hz:=hide (fun W (b:Below w.heap.size w W)=>WTreeS.right_tree a cap L W hl (Mem.za8 hv b) hok);clear hv hok b0;go_enter Tryz.func54,Tryz.ntmps54
  go_wp2_with fail
  refine (za hz _ (za HB _)).mono ?_;rintro e w1 ⟨rfl,b1⟩;have bb:=(za HB _).trans (b1.mono (za HB _).size);clear hz b1;go_wp2
  go_ret
  exact ⟨rfl,bb⟩
 ·rw [Pl.zv4 h0];have hIS:=hide (WNode.is_any m 1 4);generalize (decide ((1:Int)≤m)&&decide (m≤4))=V at hIS;clear hv hok b0;go_enter Tryz.func54,Tryz.ntmps54
  go_wp2_with fail
  refine (za hIS _).mono ?_;rintro e w1 ⟨rfl,rfl⟩;cases V
  ·go_wp2
   go_ret
   exact ⟨by simp,za HB _⟩
  ·by_cases h1:L.length=0
   ·have t1:(L.length:Int)=0:=by omega
    go_wp2
    go_ret
    exact ⟨by simp [h1],za HB _⟩
   ·have t1:¬ (L.length:Int)=0:=by omega
    go_wp2
    go_ret
    exact ⟨by simp [h1],za HB _⟩
set_option linter.unusedSimpArgs false in
set_option maxRecDepth 100000 in
set_option maxHeartbeats 1000000 in
theorem end_any (a:Option Addr) (cap:Nat) (Is:List Pl.It) (hl:Is.length≤12) (hok:∀x∈Is,x.t.L.length≤1048576∧∀n∈x.t.L,n.path.size≤1048576∧n.data.size≤1048576) (q:Nat):
  ∀ (deep p:Nat) (w:World),deep+q=5→p≤Is.length→Mem.zb0 w a Is→
  Calls Tryz.prog 28 #[.slice a Is.length cap, .int .i64 (p:Int), .int .i64 (deep:Int)] w fun e w'=>e= .returned (.int .i64 (Pl.endI Is.length (Pl.ends 1 deep ((Pl.rowO (Is.map Pl.It.r)).drop p))))∧Below w.heap.size w w':=by
 have hrl:(Pl.rowO (Is.map Pl.It.r)).length=Is.length:=by rw [Pl.zn9,List.length_map]
 induction q with
 |zero=>
  intro deep p w hd hp hv;rw [Pl.ends_deep deep _ (by omega)];simp only [Pl.endI];have t1:(4:Int)<(deep:Int):=by omega
  by_cases hlt:(Is.length:Int)≤(p:Int)
  ·go_enter Tryz.func28,Tryz.ntmps28
   go_wp2
   go_ret
   exact ⟨rfl,Below.refl _ _⟩
  ·go_enter Tryz.func28,Tryz.ntmps28
   go_wp2
   go_ret
   exact ⟨rfl,Below.refl _ _⟩
 |succ q ih=>
  intro deep p w hd hp hv;by_cases hlt:(Is.length:Int)≤(p:Int)
  ·have e:(Pl.rowO (Is.map Pl.It.r)).drop p=[]:=List.drop_eq_nil_of_le (by omega);rw [e,Pl.ends_nil];simp only [Pl.endI];go_enter Tryz.func28,Tryz.ntmps28
   go_wp2
   go_ret
   exact ⟨rfl,Below.refl _ _⟩
  have t1:¬ (4:Int)<(deep:Int):=by omega
  have t2:(0:Int)≤(p:Int):=by omega
  have t3:(p:Int)<(Is.length:Int):=by omega
  obtain ⟨x,hx⟩:∃x,Is[p]? =some x:=⟨_,List.getElem?_eq_getElem (by omega)⟩;obtain ⟨⟨b,o,rfl,hb,q0,q0'⟩,q1⟩:=hv p x hx;have hz:=hide (item_any x.m x.t.a x.t.cap x.t.L w (hok x (List.mem_of_getElem? hx)).1 q1 (hok x (List.mem_of_getElem? hx)).2);have hrow:(Pl.rowO (Is.map Pl.It.r)).drop p=Pl.zj9 (x.m,x.t.L)::(Pl.rowO (Is.map Pl.It.r)).drop (p+1):=Pl.rowO_at (by rw [List.getElem?_map,hx];rfl);have c0:=q0;have c1:=q0';simp only [Pl.Tr.val] at c1;have HI:=hide (fun (p':Nat) (W:World) (hp':p'≤Is.length) (bb:Below w.heap.size w W)=>ih (deep+1) p' W (by omega) hp' (Mem.zc2 hv bb));have HQ:=hide q0;have HR:=hide hrl;rw [hrow];generalize hLL:Pl.rowO (Is.map Pl.It.r)=LL at hrl hrow HI HR ⊢;clear hLL hv hok ih hx q0' q1 hrow;cases hib:Pl.ze7 x.m x.t.L
  ·rw [hib] at hz;rw [Pl.itemO_no hib,Pl.ends_none];simp only [Pl.endI];clear HI hib q0;go_enter Tryz.func28,Tryz.ntmps28
   go_wp2_with fail
   refine (za hz).mono ?_;rintro e w1 ⟨rfl,b1⟩;clear hz;go_wp2
   go_ret
   exact ⟨rfl,b1⟩
  ·rw [hib] at hz;obtain ⟨hm0,hm4⟩:=Pl.zs7 hib;rw [Pl.itemO_yes hib,Pl.ends_one];obtain ⟨mm,hmm⟩:∃mm:Nat,x.m=(mm:Int):=⟨x.m.toNat,by omega⟩;rw [hmm] at c0 hz HQ ⊢;rw [Int.toNat_natCast];have hm5:mm≤4:=by omega
   clear hib hmm hm0 hm4 q0;generalize hT:Pl.ends mm (deep+1) (LL.drop (p+1))=T;have HT:=hide hT;clear hT;go_enter Tryz.func28,Tryz.ntmps28
   go_wp2_with fail
   refine (za hz).mono ?_;rintro e w1 ⟨rfl,b1⟩;have c2:=(b1.cell (p:=⟨b,_,none⟩) hb).trans (za HQ);clear hz c0 c1 HQ;go_wp2
   go_loopw [1,7] (fun v k wr=>∃kk:Nat,k= .int .i64 (kk:Int)∧kk≤4∧Below w.heap.size w wr∧((∃p':Nat,v= .int .i64 (p':Int)∧p'≤Is.length∧Hid (Pl.ends kk (deep+1) (LL.drop p')=T))∨(v= .int .i64 (-1)∧Hid (T=none)))) (fun _ k _=>(intOf k).toNat)
   case atStart=>exact ⟨mm,rfl,hm5,b1, .inl ⟨p+1,by go_num,by omega,HT⟩⟩
   case round=>
    obtain ⟨kk,rfl,hk4,hbel,hcase⟩:=hrel
    rcases hcase with ⟨p',rfl,hp',HE⟩|⟨rfl,HE⟩
    ·have u0:(0:Int)≤(p':Int):=by omega
     cases kk with
     |zero=>
      have hfin:Pl.endI Is.length T=(p':Int):=by
       rw [←za HE,Pl.ends_zero _ _ (by omega),Pl.endI,List.length_drop];omega
      go_wp2
      go_ret
      exact ⟨by first |rfl |(rw [hfin];rfl),hbel⟩
     |succ kk=>
      have u1:(0:Int)<((kk+1:Nat):Int):=by omega
      have hcall:=hide (za HI p' wr hp' hbel);go_wp2_with fail
      simp only [show (deep:Int)+1=((deep+1:Nat):Int) by omega,show IntKind.i64.wrap ((deep+1:Nat):Int)=((deep+1:Nat):Int) by rw [IntKind.wrap_i64];omega];refine (za hcall).mono ?_;rintro e w2 ⟨rfl,b2⟩;have hb2:=hbel.trans (b2.mono hbel.size);have hst:=za HE;rw [Pl.ends_step] at hst;cases hR:Pl.ends 1 (deep+1) (LL.drop p') with
      |none=>
       rw [hR] at hst;have HE2:Hid (T=none):=hide (by rw [←hst];rfl);simp only [Pl.endI];clear hst HE hR hcall b2;go_wp2
       go_roundw
       case rel=>exact ⟨kk,by go_num,by omega,hb2, .inr ⟨rfl,HE2⟩⟩
       case measure=>simp [intOf]
      |some R=>
       rw [hR] at hst;obtain ⟨p2,e2,hp2,hd2⟩:=Pl.ends_at (za HR) hp' hR;rw [e2];have HE2:Hid (Pl.ends kk (deep+1) (LL.drop p2)=T):=hide (by rw [hd2,←hst];rfl);clear hst HE hR hcall b2 hd2 e2;go_wp2
       go_roundw
       case rel=>exact ⟨kk,by go_num,by omega,hb2, .inl ⟨p2,rfl,hp2,HE2⟩⟩
       case measure=>simp [intOf]
    ·have hfin:Pl.endI Is.length T= -1:=by rw [za HE];rfl
     by_cases hk0:(0:Int)<(kk:Int)
     ·go_wp2
      go_ret
      exact ⟨by first |rfl |(rw [hfin];rfl),hbel⟩
     ·go_wp2
      go_ret
      exact ⟨by first |rfl |(rw [hfin];rfl),hbel⟩
set_option maxRecDepth 100000 in
theorem zg7 (a:Option Addr) (cap:Nat) (Is:List Pl.It) (w:World) (hl:Is.length≤1048576) (hv:Mem.zb0 w a Is) (hok:∀x∈Is,x.t.L.length≤1048576∧∀n∈x.t.L,n.path.size≤1048576∧n.data.size≤1048576):
  Calls Tryz.prog 15 #[.slice a Is.length cap] w fun e w'=>e= .returned (.bool (Pl.nest (Pl.rowO (Is.map Pl.It.r))).isSome)∧Below w.heap.size w w':=by
 have hrl:(Pl.rowO (Is.map Pl.It.r)).length=Is.length:=by rw [Pl.zn9,List.length_map]
 by_cases h12:Is.length≤12
 ·have t0:(Is.length:Int)≤12:=by omega
  have hz:=hide (end_any a cap Is h12 hok 4 1 0 w rfl (Nat.zero_le _) hv);have hne:=Pl.nest_ends (Pl.rowO (Is.map Pl.It.r)) (by omega);have hen:∀R,Pl.ends 1 1 ((Pl.rowO (Is.map Pl.It.r)).drop 0)=some R→R.length≤Is.length:=fun R h=>by have :=(Pl.ends_len h).1;simp only [List.drop_zero] at this;omega
  rw [List.drop_zero] at hz hen;generalize Pl.ends 1 1 (Pl.rowO (Is.map Pl.It.r))=E at hz hne hen;generalize (Pl.nest (Pl.rowO (Is.map Pl.It.r))).isSome=V at hne ⊢;clear hv hok hrl;have HN:=hide hne;have HEN:=hide hen;clear hne hen;go_enter Tryz.func15,Tryz.ntmps15
  go_wp2_with fail
  refine (za hz).mono ?_;rintro e w1 ⟨rfl,b1⟩;clear hz;by_cases hE:Pl.endI Is.length E=(Is.length:Int)
  ·have hV:V=true:=(za HN).2 (by
    cases E with
    |none=>simp [Pl.endI] at hE
    |some R=>rw [Pl.endI] at hE;rw [List.eq_nil_of_length_eq_zero (by omega :R.length=0)])
   go_wp2
   go_ret
   exact ⟨by rw [hV];rfl,b1⟩
  ·have hV:V=false:=by
    cases hV:V
    ·rfl
    ·exact absurd (by rw [(za HN).1 hV];simp [Pl.endI]) hE
   go_wp2
   go_ret
   exact ⟨by rw [hV];simp [hE],b1⟩
 ·have t0:¬ (Is.length:Int)≤12:=by omega
  rw [Pl.zx7 _ (by omega)];go_enter Tryz.func15,Tryz.ntmps15
  go_wp2
  go_ret
  exact ⟨rfl,Below.refl _ _⟩
end WNestS
end
section
open Go.RowKit
namespace WPutT
theorem infoN:(Tryz.prog.info? 106).map (fun i=>(i.zero,i.size,i.bytes))=some (some (.agg #[.string ⟨#[]⟩, .int .i64 0, .string ⟨#[]⟩, .int .i64 0, .int .i64 0]),5,56):=by kernel_rfl
theorem cells_at {w:World} {g o:Nat} {M:List Pl.Nd} (h:Mem.za7 w (some ⟨g,o,none⟩) M):∀j u,(Pl.zd1 M)[j]? =some u→w.cell? ((⟨g,o,none⟩:Addr).add j)=some u:=by
 intro j u hj
 have hlt:j<M.length*5:=by
  have :=(List.getElem?_eq_some_iff.1 hj).1
  rwa [Pl.zl] at this
 have hd:j / 5<M.length:=by omega
 obtain ⟨g',o',e,h0,h1,h2,h3,h4,h5⟩:=h (j / 5) M[j / 5] (List.getElem?_eq_getElem hd);cases e
 have hc:=Pl.zw1 M (j / 5) _ (List.getElem?_eq_getElem hd) (j % 5) (by omega);rw [show j / 5*5+j % 5=j by omega,hj] at hc;rw [Mem.zn5];have hm:j % 5=0∨j % 5=1∨j % 5=2∨j % 5=3∨j % 5=4:=by omega
 have ej:o+j=o+j / 5*5+j % 5:=by omega
 rw [ej,hc]
 rcases hm with h|h|h|h|h <;> rw [h]
 ·exact h1
 ·exact h2
 ·exact h3
 ·exact h4
 ·exact h5
theorem cells_one (M:List Pl.Nd):∀u∈Pl.zd1 M,u.oneCell'=true:=by
 intro u hu;rw [Pl.zd1,List.mem_flatMap] at hu;obtain ⟨n,_,hn⟩:=hu;exact Mem.cs_one n u hn
theorem ownN_app {w:World} {B m:Nat} {v:Value} {A M:List Pl.Nd} (h:w.ownsRow B 106 5 v (A.length+m) (Pl.zd1 A++Pl.zd1 M)) (hm:m=M.length):Mem.ownN w B v (A++M):=by
 subst hm;unfold Mem.ownN;rw [Pl.yb1,List.length_append];exact h
end WPutT
end
section
open Go.RowKit
namespace Mem
def okR (a:Option Addr) (cap:Nat) (L:List Pl.Nd):Prop:=(a=none∧cap=0∧L=[])∨∃g o,a=some ⟨g,o,none⟩
end Mem
end
section
open Go.RowKit
namespace WCopyV
set_option linter.unusedSimpArgs false in
set_option maxRecDepth 100000 in
set_option maxHeartbeats 1000000 in
theorem zr0 (a:Option Addr) (cap:Nat) (L:List Pl.Nd) (w:World) (hl:L.length≤1000) (hA:Mem.okR a cap L) (hv:Mem.za7 w a L):
  Calls Tryz.prog 29 #[.agg #[.slice a L.length cap]] w fun e w'=>∃v,e= .returned (.agg #[v])∧Mem.ownN w' w.heap.size v L∧Below w.heap.size w w':=by
 obtain ⟨i0,hi,hz0,hz1,hz2⟩:=info_parts WPutT.infoN;have b2:Below w.heap.size w (((w.alloc (.cells #[.slice a L.length cap] 54)).alloc (.cells #[.slice none 0 0] 54)).alloc (.cells #[] 106)):=(((Below.refl _ _).alloc (Nat.le_refl _) _).alloc (by simp) _).alloc (by simp;omega) _;have B0:=((Mem.Blk.new w #[.slice a L.length cap] 54).alloc (.cells #[.slice none 0 0] 54)).alloc (.cells #[] 106);have B1:Mem.Blk (((w.alloc (.cells #[.slice a L.length cap] 54)).alloc (.cells #[.slice none 0 0] 54)).alloc (.cells #[] 106)) (w.heap.size+1) #[.slice none 0 0] 54:=(show Mem.Blk ((w.alloc (.cells #[.slice a L.length cap] 54)).alloc (.cells #[.slice none 0 0] 54)) (w.heap.size+1) #[.slice none 0 0] 54 from Mem.zl8 _ _ _).alloc _
 have OA:Hid (Mem.ownN (((w.alloc (.cells #[.slice a L.length cap] 54)).alloc (.cells #[.slice none 0 0] 54)).alloc (.cells #[] 106)) (w.heap.size+2) (.slice (some ⟨w.heap.size+2,0,none⟩) 0 0) []):=by
  refine ⟨rfl, .inr ⟨w.heap.size+2,0,#[],rfl,Nat.le_refl _,?_,Nat.le_refl _,Nat.zero_le _,rfl,rfl⟩⟩;have h:=heap_alloc_new ((w.alloc (.cells #[.slice a L.length cap] 54)).alloc (.cells #[.slice none 0 0] 54)) (.cells #[] 106);rw [show ((w.alloc (.cells #[.slice a L.length cap] 54)).alloc (.cells #[.slice none 0 0] 54)).heap.size=w.heap.size+2 by simp] at h;exact h
 have NV:=hide (Mem.za8 hv b2);have x0:=B0.cell 0;simp only [kA0,kA1] at x0;clear hv
 rcases hA with ⟨rfl,rfl,rfl⟩|⟨g,o,rfl⟩
 ·simp only [List.length_nil] at OA B1 b2 x0 ⊢;have z0:=B1.cell 0;have zf:=B1.fr 0;simp only [kA0,kA1] at z0;have BB:=(B1.put 0 (.slice (some ⟨w.heap.size+2,0,none⟩) 0 0)).cell 0;go_enter Tryz.func29,Tryz.ntmps29
  go_wp2_with (at_builtin;refine wpList_append_own_none rfl _ _ 52 rfl (w.heap.size+2) 106 i0 5 Tryz.underlying52 hi _ _ _ rfl (za OA) rfl ?_)
  refine bodyPost_ret (v:= .agg #[.slice (some ⟨w.heap.size+1+1,0,none⟩) 0 0]) (by simp [results,Tryz.results29,go_sem,z0]) rfl ⟨_,rfl,?_,?_⟩
  ·refine ⟨rfl, .inr ⟨w.heap.size+1+1,0,#[],rfl,by omega,?_,Nat.le_refl _,Nat.zero_le _,rfl,rfl⟩⟩;have h:=heap_alloc_new ((w.alloc (.cells #[.slice none 0 0] 54)).alloc (.cells #[.slice (some ⟨w.heap.size+1+1,0,none⟩) 0 0] 54)) (.cells #[] 106);rw [show ((w.alloc (.cells #[.slice none 0 0] 54)).alloc (.cells #[.slice (some ⟨w.heap.size+1+1,0,none⟩) 0 0] 54)).heap.size=w.heap.size+1+1 by simp] at h;exact h
  ·exact (((Below.refl _ _).alloc (Nat.le_refl _) _).alloc (by simp) _).alloc (by simp;omega) _
 ·go_enter Tryz.func29,Tryz.ntmps29
  go_wp2_with (at_builtin;refine wpList_append_own _ rfl _ _ 52 rfl (w.heap.size+2) 106 i0 _ 5 56 Tryz.underlying52 hi hz0 hz1 hz2 rfl (by decide) _ _ _ rfl (za OA) ⟨g,o,none⟩ L.length cap (Pl.zd1 L) rfl (by rw [Pl.zl]) (WPutT.cells_at (za NV)) (WPutT.cells_one _) (by rw [List.length_nil,Nat.zero_add];unfold maxLen;omega) (by rw [List.length_nil,Nat.zero_add];omega) (by simp) ?_)
  intro v1 wA ownA growA _;have OB:=hide (WPutT.ownN_app (A:=[]) (M:=L) (m:=L.length) (by rw [List.length_nil,Nat.zero_add];exact ownA) rfl);rw [List.nil_append] at OB;have hg1:∀q,(Value.slice (some ⟨w.heap.size+2,0,none⟩) 0 0).ownBlock=some q→q=w.heap.size+2:=fun q hq=>(Option.some.inj hq).symm;have B1:=B1.grown growA (fun e=>by have :=hg1 _ e.symm;omega);have b3:=b2.grown growA b2.size (fun q hq=>by have :=hg1 q hq;omega);obtain ⟨a3,c3,hv3⟩:=Mem.za4 (za OB);subst hv3;have z0:=B1.cell 0;have zf:=B1.fr 0;simp only [kA0,kA1] at z0;clear ownA growA hg1 OA NV x0 B0 b2;go_wp2
  refine bodyPost_ret (v:= .agg #[.slice a3 L.length c3]) (by simp [results,Tryz.results29,go_sem,z0]) rfl ⟨_,rfl,?_,?_⟩
  ·exact Mem.zp3 (Mem.ownN_set (za OB) _ _ (by show w.heap.size+1<w.heap.size+2;omega)) (by omega)
  ·exact b3.setCell (by show w.heap.size≤w.heap.size+1;omega) _
end WCopyV
end
end Go.Proofs.YtggadpalljhiaaaGreatDoor
