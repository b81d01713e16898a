import Derived.Test.YtggadpalljhiaaaGreatDoorG11
import Derived.Test.YtggadpalljhiaaaGreatDoorG36
import Derived.Test.YtggadpalljhiaaaGreatDoorG45
namespace Go.Proofs.YtggadpalljhiaaaGreatDoor
open Go.RowKit
namespace Mem
theorem items_cells {w:World} {b o:Nat} {Is:List Pl.It} (h:zb0 w (some ⟨b,o,none⟩) Is):∀j u,(Pl.zb3 Is)[j]? =some u→w.cell? ((⟨b,o,none⟩:Addr).add j)=some u:=by
 intro j u hj;have hlt:=(List.getElem?_eq_some_iff.1 hj).1;rw [Pl.zu1] at hlt;have ea:(⟨b,o,none⟩:Addr).add j=⟨b,o+j,none⟩:=by unfold Addr.add;split <;> simp_all
 rw [ea];obtain ⟨x,hx⟩:∃x,Is[j / 2]? =some x:=⟨_,List.getElem?_eq_getElem (by omega)⟩;obtain ⟨⟨b',o',e,hb,q0,q1⟩, -⟩:=h (j / 2) x hx;cases e
 obtain ⟨c0,c1⟩:=Pl.zo9 Is (j / 2) x hx
 rcases Nat.mod_two_eq_zero_or_one j with hm|hm
 ·have e1:j=j / 2*2:=by omega
  rw [←e1] at c0 q0;rw [c0] at hj;cases hj
  exact q0
 ·have e1:j=j / 2*2+1:=by omega
  rw [←e1] at c1;rw [show o+j / 2*2+1=o+j by omega] at q1;rw [c1] at hj;cases hj
  exact q1
end Mem
namespace WCopy5
theorem infoI:(Tryz.prog.info? 56).map (fun i=>(i.zero,i.size,i.bytes))=some (some (.agg #[.int .i64 0, .slice none 0 0]),2,32):=by kernel_rfl
set_option linter.unusedSimpArgs false in
set_option maxRecDepth 100000 in
set_option maxHeartbeats 1000000 in
theorem zr0 (b o cap:Nat) (Is:List Pl.It) (hl:Is.length≤12) (h0:Is.length≠0) (hL:∀x∈Is,x.t.L.length≤1000) (hR:∀x∈Is,Mem.okR x.t.a x.t.cap x.t.L) (w:World) (hv:Mem.zb0 w (some ⟨b,o,none⟩) Is):
  Calls Tryz.prog 16 #[.slice (some ⟨b,o,none⟩) Is.length cap] w fun e w'=>∃g cap' Ds,e= .returned (.slice (some ⟨g,0,none⟩) Is.length cap')∧w.heap.size≤g∧Mem.Io w' w.heap.size (.slice (some ⟨g,0,none⟩) Is.length cap') Ds∧Ds.map Pl.It.r=Is.map Pl.It.r∧Below w.heap.size w w':=by
 obtain ⟨i0,hi,hz0,hz1,hz2⟩:=info_parts infoI;have b0:Below w.heap.size w (w.alloc (.cells #[] 56)):=(Below.refl _ _).alloc (Nat.le_refl _) _;have O0:Hid ((w.alloc (.cells #[] 56)).ownsRow w.heap.size 56 2 (.slice (some ⟨w.heap.size,0,none⟩) 0 0) 0 []):=⟨rfl, .inr ⟨w.heap.size,0,#[],rfl,Nat.le_refl _,heap_alloc_new _ _,Nat.le_refl _,Nat.zero_le _,rfl,rfl⟩⟩;have HC:=hide (Mem.items_cells (Mem.zc2 hv b0));have HCP:=hide (fun (x:Pl.It) (j:Nat) (hx:Is[j]? =some x) W (bb:Below w.heap.size w W)=>WCopyV.zr0 x.t.a x.t.cap x.t.L W (hL x (List.mem_of_getElem? hx)) (hR x (List.mem_of_getElem? hx)) (Mem.za8 (hv j x hx).2 bb));clear hv hL hR;go_enter Tryz.func16,Tryz.ntmps16
 go_wp2_with (at_builtin;refine Mem.zg1 _ rfl _ _ 32 rfl w.heap.size 56 i0 (.agg #[.int .i64 0, .slice none 0 0]) 2 32 Tryz.underlying32 hi hz0 hz1 hz2 rfl (by decide) _ _ _ rfl (za O0) ⟨b,o,none⟩ Is.length cap (Pl.zb3 Is) rfl (Pl.zu1 Is) (za HC) (Pl.yc Is) (by unfold maxLen;omega) (by omega) (by simp) ?_)
 intro v1 w1 own1 gr1 far1
 have hsh:∃g cap',v1= .slice (some ⟨g,0,none⟩) Is.length cap':=by
  rcases own1.2 with ⟨e,hz⟩|⟨g,c,cur,e,rest⟩
  ·exact absurd hz h0
  ·exact ⟨g,c,e⟩
 obtain ⟨g,cap',rfl⟩:=hsh;have hg:=World.ownsRow.lt own1 g rfl;have bw1:=b0.grown gr1 (by simp) (fun q hq=>by cases hq;exact Nat.le_refl _);have CQ:Hid (Mem.Cq w1 w.heap.size g cap' [] (Is.drop ([]:List Pl.It).length)):=hide ⟨by simpa using own1,fun i x hx=>(by cases hx),fun i j x y _ hx=>(by cases hx)⟩;have DM:Hid (([]:List Pl.It).map Pl.It.r=(Is.take ([]:List Pl.It).length).map Pl.It.r):=rfl;have HGW:=hide hg.1;clear own1 gr1 far1 O0 HC b0 hg;go_wp2
 go_loopw [4] (fun i wr=>∃Ds:List Pl.It,i= .int .i64 (Ds.length:Int)∧Ds.length≤Is.length∧Below w.heap.size w wr∧Hid (Mem.Cq wr w.heap.size g cap' Ds (Is.drop Ds.length))∧Hid (Ds.map Pl.It.r=(Is.take Ds.length).map Pl.It.r)) (fun i _=>Is.length - (intOf i).toNat)
 case atStart=>exact ⟨[],rfl,Nat.zero_le _,bw1,CQ,DM⟩
 case round=>
  obtain ⟨Ds,rfl,hD,hbel,HQ,HM⟩:=hrel;clear CQ DM bw1;by_cases hlt:Ds.length<Is.length
  ·obtain ⟨x,hx⟩:∃x,Is[Ds.length]? =some x:=⟨_,List.getElem?_eq_getElem hlt⟩
   have hdr:Is.drop Ds.length=x::Is.drop (Ds.length+1):=by
    rw [List.drop_eq_getElem_cons hlt]
    congr 1
    exact Option.some.inj ((List.getElem?_eq_getElem hlt).symm.trans hx)
   rw [hdr] at HQ;have u1:(Ds.length:Int)<(Is.length:Int):=by omega
   have u3:(0:Int)≤(Ds.length:Int):=by omega
   obtain ⟨ce, -⟩:=Mem.zg (za HQ).row (k:=Ds.length*2+1) (u:=x.t.val) (Pl.zo9 _ Ds.length x (by rw [List.getElem?_append_right (Nat.le_refl _),Nat.sub_self];rfl)).2;simp only [Pl.Tr.val] at ce;have hcp:=hide (za HCP x Ds.length hx wr hbel);have hS:=hbel.size;have HST:=hide (fun W1 b t ht=>(za HQ).step (W1:=W1) (t:=t) b hS ht);have HQ2:=hide (fun W1 (b:Below wr.heap.size wr W1)=>(Mem.zg ((za HQ).call b).row (k:=Ds.length*2+1) (u:=x.t.val) (Pl.zo9 _ Ds.length x (by rw [List.getElem?_append_right (Nat.le_refl _),Nat.sub_self];rfl)).2));have HMX:Hid ((Is.take (Ds.length+1)).map Pl.It.r=(Is.take Ds.length).map Pl.It.r++[x.r]):=hide (by rw [List.take_add_one,hx,List.map_append];rfl);clear hdr hx HQ;go_wp2_with fail
   refine (za hcp).mono ?_;rintro e w2 ⟨v2,rfl,own2,b2⟩;obtain ⟨a2,c2,rfl⟩:=Mem.za4 own2;obtain ⟨ce2,cf2⟩:=za HQ2 w2 b2;have Q3:=hide (za HST w2 b2 ⟨a2,c2,x.t.L⟩ own2);have bw2:=hbel.trans (b2.mono hbel.size);have HB:=hide (bw2.setCell (p:=⟨g,Ds.length*2+1,none⟩) (za HGW) (.slice a2 x.t.L.length c2));have HM3:Hid ((Ds++[(⟨x.m,⟨a2,c2,x.t.L⟩⟩:Pl.It)]).map Pl.It.r=(Is.take (Ds.length+1)).map Pl.It.r):=hide (by rw [List.map_append,za HM,za HMX];rfl);simp only [Pl.Tr.val] at ce2 Q3;clear hcp HST HQ2 HMX HM own2 b2 bw2 ce hbel;go_wp2
   go_roundw
   case rel=>
    refine ⟨Ds++[⟨x.m,⟨a2,c2,x.t.L⟩⟩],?_,?_,za HB,?_,?_⟩
    ·rw [List.length_append,List.length_singleton];go_num
    ·rw [List.length_append,List.length_singleton];omega
    ·rw [List.length_append,List.length_singleton];exact Q3
    ·rw [List.length_append,List.length_singleton];exact HM3
   case measure=>simp [intOf];omega
  ·have u1:¬ (Ds.length:Int)<(Is.length:Int):=by omega
   have hDe:Ds.length=Is.length:=by omega
   have IO:Hid (Mem.Io wr w.heap.size (.slice (some ⟨g,0,none⟩) Is.length cap') Ds):=hide (by
    have h1:=za HQ;rw [hDe,List.drop_length] at h1;have h2:=h1.done;rw [hDe] at h2
    exact h2)
   have HM3:Hid (Ds.map Pl.It.r=Is.map Pl.It.r):=hide (by have :=za HM;rw [hDe,List.take_length] at this;exact this);clear HQ HM hDe;go_wp2
   go_ret
   exact ⟨g,cap',rfl,za HGW,Ds,za IO,za HM3,hbel⟩
end WCopy5
end Go.Proofs.YtggadpalljhiaaaGreatDoor
