import Derived.Test.YtpggbphcbcogdaaGreatDoorPlainTree
import Derived.Test.YtpggbphcbcogdaaGreatDoorPlainSight
namespace Go.Proofs.YtpggbphcbcogdaaGreatDoor
open Go.RowKit
namespace Pl
structure Ot where
 ok:Bool
 node:Nd
 parts:List Nat
def finO (o:Ot) (mark:Int):Ot:=⟨o.ok,⟨o.node.path,o.node.kind,o.node.data,o.node.time,max 0 (mark - 1)⟩,o.parts⟩
def zc4 (p:ByteArray) (o:Ot) (mark:Int):List (Nat × Option Nd)→Ot
 | []=>finO o mark
 |(_,none)::r=>zc4 p o mark r
 |(k,some n)::r=>
  if o.parts=[] then
   if n.kind=1 then (if 0<n.mark then finO ⟨true,⟨p,1,⟨#[]⟩,n.time,0⟩,[k]⟩ (max mark n.mark) else zc4 p ⟨true,⟨p,1,⟨#[]⟩,n.time,0⟩,[k]⟩ (max mark n.mark) r)
   else if n.kind=0 then ⟨decide (1<n.mark),⟨p,0,⟨#[]⟩,0,n.mark - 1⟩,[]⟩ else ⟨true,n,[]⟩
  else if n.kind=1 then (if 0<n.mark then finO ⟨o.ok,o.node,o.parts++[k]⟩ (max mark n.mark) else zc4 p ⟨o.ok,o.node,o.parts++[k]⟩ (max mark n.mark) r) else finO o (max mark n.mark)
def numb:Nat→List (Option Nd)→List (Nat × Option Nd)
 |_,[]=>[]
 |k,x::r=>(k,x)::numb (k+1) r
def zb2 (ks:List Nat):List Bool:=(List.range 4).map (fun j=>decide (j∈ks))
theorem parts_in {ks:List Nat} {k:Nat} (h:k<4):(zb2 ks).set k true=zb2 (ks++[k]):=by
 obtain rfl |rfl |rfl |rfl:k=0∨k=1∨k=2∨k=3:=by omega
 all_goals simp [zb2,List.range_succ]
theorem parts_out {ks:List Nat} {k:Nat} (h:k<4) (hk:k∉ks):(zb2 ks).set k false=zb2 ks:=by
 obtain rfl |rfl |rfl |rfl:k=0∨k=1∨k=2∨k=3:=by omega
 all_goals simp [zb2,List.range_succ,hk]
structure SameO (o:Ot) (s:Sg):Prop where
 told:o.ok=s.told
 node:o.ok=true→o.node=s.node
 parts:s.have'=zb2 o.parts
 dir:o.parts≠[]→o.ok=true∧o.node.kind=1
 no:o.parts=[]→o.ok=true→o.node.kind≠1
theorem zy {d:ByteArray} (h:d.size=0):d=⟨#[]⟩:=by
 cases d with
 |mk a=>have :a=#[]:=Array.size_eq_zero_iff.1 h;rw [this]
def zm8 (p:ByteArray) (ns:List (Option Nd)):Prop:=∀n,some n∈ns→zb3 n=true∧n.path=p
theorem zr6 {p:ByteArray} {t mark:Int} {ks:List Nat} (hks:ks≠[]):SameO (finO ⟨true,⟨p,1,⟨#[]⟩,t,0⟩,ks⟩ mark) (upS ⟨true,⟨p,1,⟨#[]⟩,t,mark⟩,zb2 ks⟩):=by
 have hu:upS ⟨true,⟨p,1,⟨#[]⟩,t,mark⟩,zb2 ks⟩=⟨true,⟨p,1,⟨#[]⟩,t,max (mark - 1) 0⟩,zb2 ks⟩:=by
  unfold upS;rw [if_neg (by simp)]
 rw [hu];refine ⟨rfl,fun _=>?_,rfl,fun _=>⟨rfl,rfl⟩,fun h=>absurd h hks⟩;simp only [finO];rw [Int.max_comm]
theorem pick_dirs (p:ByteArray):∀ (ns:List (Option Nd)) (k:Nat) (t mark:Int) (ks:List Nat),zm8 p ns→k+ns.length≤4→ks≠[]→(∀j∈ks,j<k)→0≤mark→
  SameO (zc4 p ⟨true,⟨p,1,⟨#[]⟩,t,0⟩,ks⟩ mark (numb k ns)) (upS (goD k ⟨true,⟨p,1,⟨#[]⟩,t,mark⟩,zb2 ks⟩ ns)):=by
 intro ns
 induction ns with
 |nil=>intro k t mark ks _ _ hks _ hm;exact zr6 hks
 |cons x ns ih=>
  intro k t mark ks hr hl hks hlt hm;have hr':zm8 p ns:=fun n hn=>hr n (List.mem_cons_of_mem _ hn);simp only [List.length_cons] at hl;cases x with
  |none=>exact ih (k+1) t mark ks hr' (by omega) hks (fun j hj=>Nat.lt_succ_of_lt (hlt j hj)) hm
  |some n=>
   have hnk:k∉ks:=fun h=>absurd (hlt k h) (Nat.lt_irrefl _);have hm2:0≤max mark n.mark:=by omega
   simp only [numb,zc4,goD];rw [if_neg hks];by_cases hk:n.kind=1
   ·have htk:zc2 ⟨true,⟨p,1,⟨#[]⟩,t,mark⟩,zb2 ks⟩ k n=⟨true,⟨p,1,⟨#[]⟩,t,max mark n.mark⟩,zb2 (ks++[k])⟩:=by
     simp only [zc2,zf8,if_true,hk,decide_true];rw [parts_in (by omega)]
    rw [htk,if_pos hk];by_cases hmk:0<n.mark
    ·have hst:ze6 n=true:=by simp [ze6,hmk]
     rw [if_pos hmk,hst,if_pos rfl];exact zr6 (by simp)
    ·have hst:ze6 n=false:=by simp [ze6,hmk,hk]
     rw [if_neg hmk,hst,if_neg (by decide)]
     exact ih (k+1) t _ (ks++[k]) hr' (by omega) (by simp) (fun j hj=>by
      rcases List.mem_append.1 hj with h|h
      ·exact Nat.lt_succ_of_lt (hlt j h)
      ·simp at h;omega) hm2
   ·have htk:zc2 ⟨true,⟨p,1,⟨#[]⟩,t,mark⟩,zb2 ks⟩ k n=⟨true,⟨p,1,⟨#[]⟩,t,max mark n.mark⟩,zb2 ks⟩:=by
     simp only [zc2,zf8,if_true,hk,decide_false];rw [parts_out (by omega) hnk]
    have hst:ze6 n=true:=by simp [ze6,hk]
    rw [htk,if_neg hk,hst,if_pos rfl];exact zr6 hks
theorem pick_same (p:ByteArray):∀ (ns:List (Option Nd)) (k:Nat),zm8 p ns→k+ns.length≤4→SameO (zc4 p ⟨false,za3,[]⟩ 0 (numb k ns)) (upS (goD k ⟨false,za3,zb2 []⟩ ns)):=by
 intro ns
 induction ns with
 |nil=>
  intro k _ _
  have hu:upS (goD k ⟨false,za3,zb2 []⟩ [])=Sg.zero:=by
   show upS ⟨false,za3,zb2 []⟩=Sg.zero;unfold upS;rw [if_pos ⟨rfl,by show max ((0:Int) - 1) 0=0;decide⟩]
  rw [hu];exact ⟨rfl,fun h=>(by cases h),rfl,fun h=>absurd rfl h,fun _ h=>(by cases h)⟩
 |cons x ns ih=>
  intro k hr hl;have hr':zm8 p ns:=fun n hn=>hr n (List.mem_cons_of_mem _ hn);simp only [List.length_cons] at hl;cases x with
  |none=>exact ih (k+1) hr' (by omega)
  |some n=>
   obtain ⟨hb,hp⟩:=hr n List.mem_cons_self;obtain ⟨-, -,hmk8,hkd⟩:=zn5 hb;obtain ⟨np,nk,nd,nt,nm⟩:=n;simp only at hp hmk8;subst hp;have hnm:max nm nm=nm:=by omega
   have hnk:k∉([]:List Nat):=by simp
   simp only [numb,zc4,goD,if_true];by_cases hk:nk=1
   ·subst hk
    have hd:nd=⟨#[]⟩:=by
     simp [zg3] at hkd
     first |exact hkd|exact zy hkd
    subst hd
    have htk:zc2 ⟨false,za3,zb2 []⟩ k ⟨np,1,⟨#[]⟩,nt,nm⟩=⟨true,⟨np,1,⟨#[]⟩,nt,nm⟩,zb2 ([]++[k])⟩:=by
     simp only [zc2,zf8,Bool.false_eq_true,if_false,decide_true,hnm];rw [parts_in (by omega)]
    have hm0:max 0 nm=nm:=by omega
    rw [htk,hm0,List.nil_append,if_pos (rfl:(1:Int)=1)];by_cases hmk:0<nm
    ·have hst:ze6 ⟨np,1,⟨#[]⟩,nt,nm⟩=true:=by simp [ze6,hmk]
     rw [if_pos hmk,hst,if_pos rfl];exact zr6 (by simp)
    ·have hst:ze6 ⟨np,1,⟨#[]⟩,nt,nm⟩=false:=by simp [ze6,hmk]
     rw [if_neg hmk,hst,if_neg (by decide)];exact pick_dirs np ns (k+1) nt nm [k] hr' (by omega) (by simp) (fun j hj=>by simp at hj;omega) hmk8.1
   ·have htk:zc2 ⟨false,za3,zb2 []⟩ k ⟨np,nk,nd,nt,nm⟩=⟨true,⟨np,nk,nd,nt,nm⟩,zb2 []⟩:=by
     simp only [zc2,zf8,Bool.false_eq_true,if_false,hk,decide_false,hnm];rw [parts_out (by omega) hnk]
    have hst:ze6 ⟨np,nk,nd,nt,nm⟩=true:=by simp [ze6,hk]
    rw [htk,if_neg hk,hst,if_pos rfl];by_cases hz:nk=0
    ·subst hz;simp [zg3] at hkd
     obtain ⟨⟨hd,ht⟩,hm⟩:=hkd;have hd2:nd=⟨#[]⟩:=by first |exact hd|exact zy hd
     subst hd2 ht;rw [if_pos rfl];by_cases h1:nm=1
     ·subst h1
      have hu:upS ⟨true,⟨np,0,⟨#[]⟩,0,1⟩,zb2 []⟩=Sg.zero:=by
       unfold upS;rw [if_pos ⟨rfl,by show max ((1:Int) - 1) 0=0;decide⟩]
      rw [hu];exact ⟨rfl,fun h=>(by cases h),rfl,fun h=>absurd rfl h,fun _ h=>(by cases h)⟩
     ·have hu:upS ⟨true,⟨np,0,⟨#[]⟩,0,nm⟩,zb2 []⟩=⟨true,⟨np,0,⟨#[]⟩,0,nm - 1⟩,zb2 []⟩:=by
       unfold upS;rw [if_neg (by simp only;omega),show max (nm - 1) 0=nm - 1 by omega]
      rw [hu];exact ⟨by simp;omega,fun _=>rfl,rfl,fun h=>absurd rfl h,fun _ _=>(by show (0:Int)≠1;decide)⟩
    ·have h2:nm=0:=by
      simp [zg3,hz,hk] at hkd
      exact hkd.2
     subst h2
     have hu:upS ⟨true,⟨np,nk,nd,nt,0⟩,zb2 []⟩=⟨true,⟨np,nk,nd,nt,0⟩,zb2 []⟩:=by
      unfold upS;rw [if_neg (fun h=>hz h.1)];rfl
     rw [hu,if_neg hz];exact ⟨rfl,fun _=>rfl,rfl,fun h=>absurd rfl h,fun _ _=>hk⟩
theorem pick_dec {p:ByteArray} {ns:List (Option Nd)} (hr:zm8 p ns) (hl:ns.length≤4):SameO (zc4 p ⟨false,za3,[]⟩ 0 (numb 0 ns)) (decS ns):=pick_same p ns 0 hr (by omega)
end Pl
end Go.Proofs.YtpggbphcbcogdaaGreatDoor
