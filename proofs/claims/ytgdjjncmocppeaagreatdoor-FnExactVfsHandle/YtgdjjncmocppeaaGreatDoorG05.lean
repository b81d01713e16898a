/- Several texts of one claim in one file: PlainSpace, PlainSpaceP. -/
import Derived.Test.YtgdjjncmocppeaaGreatDoorG02
namespace Go.Proofs.YtgdjjncmocppeaaGreatDoor
section
namespace Pl
def zc6:List Int→Int→Int
 | [],_=> -1
 |x::r,d=>if x=d then 0 else (if zc6 r d<0 then -1 else zc6 r d+1)
theorem instI_at {l:List Int} {d:Int} {k:Nat} (h:l[k]? =some d) (hn:∀j,j<k→l[j]?≠some d):zc6 l d=(k:Int):=by
 induction l generalizing k with
 |nil=>simp at h
 |cons x r ih=>
  rw [zc6];cases k with
  |zero=>simp at h;rw [if_pos h];rfl
  |succ k=>
   have h0:x≠d:=fun e=>hn 0 (by omega) (by simp [e]);have :=ih (k:=k) (by simpa using h) (fun j hj=>by simpa using hn (j+1) (by omega));rw [if_neg h0,this,if_neg (by omega)];omega
theorem instI_no {l:List Int} {d:Int} (hn:∀j:Nat,l[j]?≠some d):zc6 l d= -1:=by
 induction l with
 |nil=>rfl
 |cons x r ih=>
  have h0:x≠d:=fun e=>hn 0 (by simp [e]);have :=ih (fun j=>by simpa using hn (j+1));rw [zc6,if_neg h0,this];rfl
theorem zr7 (l:List Int) (d:Int):(zc6 l d<0)↔d∉l:=by
 induction l with
 |nil=>simp [zc6]
 |cons x r ih=>
  rw [zc6];by_cases h:x=d
  ·rw [if_pos h];simp [h]
  ·rw [if_neg h];by_cases h2:zc6 r d<0
   ·rw [if_pos h2];have :=ih.1 h2;simp [this,Ne.symm h]
   ·rw [if_neg h2]
    have h3:d∈r:=by
     by_cases hm:d∈r
     ·exact hm
     ·exact absurd (ih.2 hm) h2
    simp [h3];omega
def cntM (M:List Mn) (d:Int):Nat:=M.countP (fun x=>decide (x.i=d))
def cntH (H:List Hn) (d:Int):Nat:=H.countP (fun x=>decide (x.i=d))
theorem cntM_step {M:List Mn} {k:Nat} {x:Mn} (h:M[k]? =some x) (d:Int):cntM (M.take (k+1)) d=cntM (M.take k) d+(if x.i=d then 1 else 0):=by
 unfold cntM;rw [List.take_add_one,h,List.countP_append];simp [List.countP_cons]
theorem cntH_step {H:List Hn} {k:Nat} {x:Hn} (h:H[k]? =some x) (d:Int):cntH (H.take (k+1)) d=cntH (H.take k) d+(if x.i=d then 1 else 0):=by
 unfold cntH;rw [List.take_add_one,h,List.countP_append];simp [List.countP_cons]
theorem cntM_le (M:List Mn) (d:Int):cntM M d≤M.length:=List.countP_le_length
theorem cntH_le (H:List Hn) (d:Int):cntH H d≤H.length:=List.countP_le_length
def held (M:List Mn) (H:List Hn) (d:Int):Int:=(cntM M d:Int)+(cntH H d:Int)
def isB (x lo hi:Int):Bool:=decide (lo≤x)&&decide (x≤hi)
def zk9 (ids:List Int) (next :Int) (way:ByteArray→Bool) (H:List Hn) (i:Nat):Bool:=match H[i]? with
 |none=>true
 |some h=>isB h.d 1 (next - 1)&&(match i with |0=>true|j+1=>(match H[j]? with |none=>true|some p=>decide (p.d<h.d)))&&!decide (zc6 ids h.i<0)&&way h.p
def zm5 (ids:List Int) (next :Int) (way:ByteArray→Bool) (H:List Hn):Bool:=decide (H.length≤6)&&(List.range H.length).all (zk9 ids next way H)
def zj9 (M:List Mn) (H:List Hn) (next :Int) (N:List (Int × Bool)) (i:Nat):Bool:=match N[i]? with
 |none=>true
 |some x=>isB x.1 1 (next - 1)&&(match i with |0=>true|j+1=>(match N[j]? with |none=>true|some p=>decide (p.1<x.1)))&&x.2&&!decide (held M H x.1=0)
def zm2 (M:List Mn) (H:List Hn) (next :Int) (N:List (Int × Bool)):Bool:=decide (N.length≤12)&&(List.range N.length).all (zj9 M H next N)
def zf (ids:List Int) (M:List Mn) (i:Nat):Bool:=match M[i]? with
 |none=>true
 |some m=>!m.z&&za0 m.p&&(match i with |0=>true|j+1=>(match M[j]? with |none=>true|some p=>za5 (names p.p) (names m.p)))&&!decide (zc6 ids m.i<0)&&(M.take i).all (fun p=>!decide (p.i=m.i))
def zi0 (ids:List Int) (M:List Mn):Bool:=decide (1≤M.length)&&decide (M.length≤6)&&(match M with | []=>true|m::_=>decide (m.p.size=0))&&(List.range M.length).all (zf ids M)
theorem zx3 {n k:Nat} {f:Nat→Bool} (hk:k<n) (h:f k=false):(List.range n).all f=false:=by
 rw [List.all_eq_false];exact ⟨k,List.mem_range.2 hk,by rw [h];decide⟩
theorem zt7 {n:Nat} {f:Nat→Bool} (h:∀k,k<n→f k=true):(List.range n).all f=true:=by
 rw [List.all_eq_true];exact fun k hk=>h k (List.mem_range.1 hk)
def zb6 (next :Int) (N:List (Int × Bool)) (M:List Mn) (H:List Hn) (way:ByteArray→Bool):Bool:=isB next 1 1000000&&zm5 (N.map (·.1)) next way H&&zi0 (N.map (·.1)) M&&zm2 M H next N
end Pl
end
section
namespace Pl
def zh4 (l:List Int):Nat→Int
 |0=>0
 |j+1=>match l[j]? with |none=>0|some x=>x
def zn6 (l:List Int) (next :Int) (i:Nat):Bool:=match l[i]? with
 |none=>true
 |some x=>decide (zh4 l i<x)&&decide (x<next)
def zj8 (N:List (Int × Bool)) (next :Int) (i:Nat):Bool:=match N[i]? with
 |none=>true
 |some x=>x.2&&zn6 (N.map (·.1)) next i
def zo3 (N:List (Int × Bool)) (next :Int):Bool:=(List.range N.length).all (zj8 N next)
def zp8 (M:List Mn) (m:Mn):Bool:=M.any (fun o=>!(decide (o.p=m.p)&&decide (o.i=m.i)&&decide (o.z=m.z))&&decide (o.i=m.i))
def zi7 (ids:List Int) (M:List Mn) (i:Nat):Bool:=match M[i]? with
 |none=>true
 |some m=>(match i with |0=>true|j+1=>(match M[j]? with |none=>true|some p=>ltP p.p m.p))&&decide (m.i∈ids)&&!m.z&&!zp8 M m
def zk0 (ids:List Int) (M:List Mn):Bool:=(match M with | []=>false|m::_=>decide (m.p.size=0))&&(List.range M.length).all (zi7 ids M)
def zp5 (ids:List Int) (next :Int) (way:ByteArray→Bool) (H:List Hn) (i:Nat):Bool:=match H[i]? with
 |none=>true
 |some h=>zn6 (H.map (·.d)) next i&&way h.p&&decide (h.i∈ids)
def zu0 (ids:List Int) (next :Int) (way:ByteArray→Bool) (H:List Hn):Bool:=(List.range H.length).all (zp5 ids next way H)
def zo9 (ids:List Int) (M:List Mn) (H:List Hn):Bool:=ids.all (fun d=>!decide (held M H d=0))
def zt9 (next :Int) (N:List (Int × Bool)) (M:List Mn) (H:List Hn) (way:ByteArray→Bool):Bool:=
 decide (N.length≤12)&&decide (M.length≤6)&&decide (H.length≤6)&&decide (next ≤1000000)&&zo3 N next &&zk0 (N.map (·.1)) M&&zu0 (N.map (·.1)) next way H&&zo9 (N.map (·.1)) M H
theorem all_iff {n:Nat} {f:Nat→Bool}:(List.range n).all f=true↔∀k,k<n→f k=true:=by
 rw [List.all_eq_true];exact ⟨fun h k hk=>h k (List.mem_range.2 hk),fun h k hk=>h k (List.mem_range.1 hk)⟩
theorem rise_pos {l:List Int} {next :Int} (h:∀k,k<l.length→zn6 l next k=true):∀ (k:Nat) (x:Int),l[k]? =some x→1≤x∧x<next :=by
 intro k
 induction k with
 |zero=>
  intro x hx;have :=h 0 (List.getElem?_eq_some_iff.1 hx).1;simp only [zn6,hx,Bool.and_eq_true,decide_eq_true_eq] at this;have h2:zh4 l 0=0:=rfl;omega
 |succ k ih=>
  intro x hx;have hl:=(List.getElem?_eq_some_iff.1 hx).1;have :=h (k+1) hl;have hk:l[k]? =some (l[k]'(by omega)):=List.getElem?_eq_getElem (by omega);simp only [zn6,hx,zh4,hk,Bool.and_eq_true,decide_eq_true_eq] at this;have :=ih _ hk;omega
theorem zy0 (l:List Int) (next :Int):(∀k,k<l.length→zn6 l next k=true)↔∀ (k:Nat) (x:Int),l[k]? =some x→(1≤x∧x≤next - 1)∧∀ (j:Nat) (p:Int),k=j+1→l[j]? =some p→p<x:=by
 constructor
 ·intro h k x hx;have h1:=rise_pos h k x hx;refine ⟨⟨h1.1,by omega⟩,fun j p e hp=>?_⟩;subst e;have :=h (j+1) (List.getElem?_eq_some_iff.1 hx).1;simp only [zn6,hx,zh4,hp,Bool.and_eq_true,decide_eq_true_eq] at this;exact this.1
 ·intro h k hk;have hx:l[k]? =some l[k]:=List.getElem?_eq_getElem hk;obtain ⟨h1,h2⟩:=h k _ hx;simp only [zn6,hx,Bool.and_eq_true,decide_eq_true_eq];refine ⟨?_,by omega⟩;cases k with
  |zero=>simp only [zh4];omega
  |succ j=>
   have hp:l[j]? =some (l[j]'(by omega)):=List.getElem?_eq_getElem (by omega);simp only [zh4,hp];exact h2 j _ rfl hp
theorem zn4 (x lo hi:Int):isB x lo hi=true↔lo≤x∧x≤hi:=by simp [isB]
def prevL (l:List Int) (x:Int):Nat→Bool
 |0=>true
 |j+1=>match l[j]? with |none=>true|some p=>decide (p<x)
theorem zz1 (l:List Int) (k:Nat) (x:Int):prevL l x k=true↔∀ (j:Nat) (p:Int),k=j+1→l[j]? =some p→p<x:=by
 cases k with
 |zero=>simp [prevL]
 |succ j=>
  unfold prevL;cases hp:l[j]? with
  |none=>simp only [hp,true_iff];intro j' p e h';cases e;rw [hp] at h';cases h'
  |some q=>simp only [hp,decide_eq_true_eq];exact ⟨fun h j' p e h'=>by cases e;rw [hp] at h';cases h';exact h,fun h=>h j q rfl hp⟩
theorem stepH_eq {ids:List Int} {next :Int} {way:ByteArray→Bool} {H:List Hn} {k:Nat} {t:Hn} (ht:H[k]? =some t):zk9 ids next way H k=(isB t.d 1 (next - 1)&&prevL (H.map (·.d)) t.d k&&!decide (zc6 ids t.i<0)&&way t.p):=by
 unfold zk9;rw [ht];cases k with
 |zero=>rfl
 |succ j=>
  simp only [prevL,List.getElem?_map];cases H[j]? <;> rfl
theorem zz6 {M:List Mn} {H:List Hn} {next :Int} {N:List (Int × Bool)} {k:Nat} {t:Int × Bool} (ht:N[k]? =some t):zj9 M H next N k=(isB t.1 1 (next - 1)&&prevL (N.map (·.1)) t.1 k&&t.2&&!decide (held M H t.1=0)):=by
 unfold zj9;rw [ht];cases k with
 |zero=>rfl
 |succ j=>
  simp only [prevL,List.getElem?_map];cases N[j]? <;> rfl
theorem stepH_iff (ids:List Int) (next :Int) (way:ByteArray→Bool) (H:List Hn):(∀k,k<H.length→zk9 ids next way H k=true)↔(∀k,k<H.length→zp5 ids next way H k=true):=by
 have hr:=zy0 (H.map (·.d)) next
 constructor
 ·intro h
  have h1:∀ (k:Nat) (x:Int),(H.map (·.d))[k]? =some x→(1≤x∧x≤next - 1)∧∀ (j:Nat) (p:Int),k=j+1→(H.map (·.d))[j]? =some p→p<x:=by
   intro k x hx;rw [List.getElem?_map,Option.map_eq_some_iff] at hx;obtain ⟨t,ht,rfl⟩:=hx;have :=h k (List.getElem?_eq_some_iff.1 ht).1;simp only [stepH_eq ht,Bool.and_eq_true,zn4] at this;exact ⟨this.1.1.1,(zz1 _ _ _).1 this.1.1.2⟩
  intro k hk;have ht:H[k]? =some H[k]:=List.getElem?_eq_getElem hk;have h2:=hr.2 h1 k (by simpa using hk);have h3:=h k hk;simp only [stepH_eq ht,Bool.and_eq_true,Bool.not_eq_true',decide_eq_false_iff_not] at h3;simp only [zp5,ht,h2,h3.2,Bool.true_and,decide_eq_true_eq];by_cases hm:H[k].i∈ids
  ·exact hm
  ·exact absurd ((zr7 ids _).2 hm) h3.1.2
 ·intro h
  have h1:=hr.1 (fun k hk=>by
   have hk':k<H.length:=by simpa using hk
   have ht:H[k]? =some H[k]:=List.getElem?_eq_getElem hk';have :=h k hk';simp only [zp5,ht,Bool.and_eq_true] at this
   exact this.1.1)
  intro k hk;have ht:H[k]? =some H[k]:=List.getElem?_eq_getElem hk;have h2:=h1 k H[k].d (by rw [List.getElem?_map,ht];rfl);have h3:=h k hk;simp only [zp5,ht,Bool.and_eq_true,decide_eq_true_eq] at h3;simp only [stepH_eq ht,Bool.and_eq_true,zn4,Bool.not_eq_true',decide_eq_false_iff_not];exact ⟨⟨⟨h2.1,(zz1 _ _ _).2 h2.2⟩,fun e=>(zr7 ids _).1 e h3.2⟩,h3.1.2⟩
theorem stepN_iff (M:List Mn) (H:List Hn) (next :Int) (N:List (Int × Bool)):(∀k,k<N.length→zj9 M H next N k=true)↔(∀k,k<N.length→zj8 N next k=true)∧zo9 (N.map (·.1)) M H=true:=by
 have hr:=zy0 (N.map (·.1)) next
 constructor
 ·intro h
  have h1:∀ (k:Nat) (x:Int),(N.map (·.1))[k]? =some x→(1≤x∧x≤next - 1)∧∀ (j:Nat) (p:Int),k=j+1→(N.map (·.1))[j]? =some p→p<x:=by
   intro k x hx;rw [List.getElem?_map,Option.map_eq_some_iff] at hx;obtain ⟨t,ht,rfl⟩:=hx;have :=h k (List.getElem?_eq_some_iff.1 ht).1;simp only [zz6 ht,Bool.and_eq_true,zn4] at this;exact ⟨this.1.1.1,(zz1 _ _ _).1 this.1.1.2⟩
  refine ⟨fun k hk=>?_,?_⟩
  ·have ht:N[k]? =some N[k]:=List.getElem?_eq_getElem hk;have h2:=hr.2 h1 k (by simpa using hk);have h3:=h k hk;simp only [zz6 ht,Bool.and_eq_true] at h3;simp only [zj8,ht,h2,h3.1.2,Bool.and_self]
  ·unfold zo9;rw [List.all_eq_true];intro d hd;obtain ⟨k,hk,e⟩:=List.mem_iff_getElem.1 hd;have hk':k<N.length:=by simpa using hk
   have ht:N[k]? =some N[k]:=List.getElem?_eq_getElem hk';have h3:=h k hk';simp only [zz6 ht,Bool.and_eq_true] at h3;rw [←e,List.getElem_map];exact h3.2
 ·rintro ⟨h,hu⟩
  have h1:=hr.1 (fun k hk=>by
   have hk':k<N.length:=by simpa using hk
   have ht:N[k]? =some N[k]:=List.getElem?_eq_getElem hk';have :=h k hk';simp only [zj8,ht,Bool.and_eq_true] at this
   exact this.2)
  intro k hk;have ht:N[k]? =some N[k]:=List.getElem?_eq_getElem hk;have h2:=h1 k N[k].1 (by rw [List.getElem?_map,ht];rfl);have h3:=h k hk;simp only [zj8,ht,Bool.and_eq_true] at h3;simp only [zz6 ht,Bool.and_eq_true,zn4];refine ⟨⟨⟨h2.1,(zz1 _ _ _).2 h2.2⟩,h3.1⟩,?_⟩;exact List.all_eq_true.1 hu _ (List.mem_map.2 ⟨_,List.getElem_mem hk,rfl⟩)
theorem yd2 {M:List Mn} (hp:∀ (k:Nat) (m:Mn),M[k]? =some m→∀ (j:Nat) (q:Mn),k=j+1→M[j]? =some q→za5 (names q.p) (names m.p)=true):∀ (k j:Nat) (a b:Mn),M[j]? =some a→M[k]? =some b→j<k→za5 (names a.p) (names b.p)=true:=by
 intro k
 induction k with
 |zero=>intro j a b _ _ h;omega
 |succ k ih=>
  intro j a b ha hb h;have hl:=(List.getElem?_eq_some_iff.1 hb).1;have hk:M[k]? =some (M[k]'(by omega)):=List.getElem?_eq_getElem (by omega);have h1:=hp (k+1) b hb k _ rfl hk;by_cases e:j=k
  ·subst e;rw [hk] at ha;cases ha;exact h1
  ·exact zk7 _ _ _ (ih j a _ ha hk (by omega)) h1
theorem mounts_iff (ids:List Int) (M:List Mn):zk0 ids M=true↔decide (1≤M.length)=true∧(match M with | []=>true|m::_=>decide (m.p.size=0))=true∧∀k,k<M.length→zf ids M k=true:=by
 cases M with
 |nil=>simp [zk0]
 |cons m0 R=>
  unfold zk0;rw [Bool.and_eq_true,all_iff];simp only [List.length_cons,decide_eq_true_eq];generalize hM:m0::R=M;have hl:R.length+1=M.length:=by rw [←hM];rfl
  rw [hl];have h00:M[0]? =some m0:=by rw [←hM];rfl
  constructor
  ·rintro ⟨h0,h⟩
   have hless:∀ (k:Nat) (m:Mn),M[k]? =some m→∀ (j:Nat) (q:Mn),k=j+1→M[j]? =some q→ltP q.p m.p=true:=by
    intro k m hm j q e hq;subst e;have :=h (j+1) (List.getElem?_eq_some_iff.1 hm).1;simp only [zi7,hm,hq,Bool.and_eq_true] at this;exact this.1.1.1
   have hright:∀ (k:Nat) (m:Mn),M[k]? =some m→za0 m.p=true:=by
    intro k m hm;cases k with
    |zero=>rw [h00] at hm;cases hm;exact (zh9 h0).1
    |succ j=>
     have hl2:=(List.getElem?_eq_some_iff.1 hm).1;have hq:M[j]? =some (M[j]'(by omega)):=List.getElem?_eq_getElem (by omega);have :=hless (j+1) m hm j _ rfl hq;unfold ltP at this;simp only [Bool.and_eq_true] at this;exact this.1.2
   have hless2:∀ (k:Nat) (m:Mn),M[k]? =some m→∀ (j:Nat) (q:Mn),k=j+1→M[j]? =some q→za5 (names q.p) (names m.p)=true:=fun k m hm j q e hq=>by
    rw [←zm6 (hright j q hq) (hright k m hm)];exact hless k m hm j q e hq
   refine ⟨by omega,h0,fun k hk=>?_⟩;have hm:M[k]? =some M[k]:=List.getElem?_eq_getElem hk;have h3:=h k hk;simp only [zi7,hm,Bool.and_eq_true,Bool.not_eq_true',decide_eq_true_eq] at h3;simp only [zf,hm,hright k _ hm,h3.1.2,Bool.and_eq_true,Bool.not_eq_true',decide_eq_false_iff_not,Bool.not_false,Bool.true_and];refine ⟨⟨?_,fun e=>(zr7 ids _).1 e h3.1.1.2⟩,?_⟩
   ·cases k with
    |zero=>rfl
    |succ j=>
     have hq:M[j]? =some (M[j]'(by omega)):=List.getElem?_eq_getElem (by omega);simp only [hq];exact hless2 (j+1) _ hm j _ rfl hq
   ·rw [List.all_eq_true];intro o ho;obtain ⟨j,hj,e⟩:=List.mem_iff_getElem.1 ho;rw [List.length_take] at hj;have hoj:M[j]? =some o:=by rw [←e,List.getElem_take];exact List.getElem?_eq_getElem (by omega)
    have hr:=yd2 hless2 k j o _ hoj hm (by omega);by_cases hi:o.i=M[k].i
    ·exfalso;have h4:=h3.2;unfold zp8 at h4;rw [List.any_eq_false] at h4;have h5:=h4 o (List.mem_of_getElem? hoj);simp only [hi,decide_true,Bool.and_true,Bool.not_eq_true',Bool.not_eq_false,Bool.and_eq_true,decide_eq_true_eq] at h5;rw [h5.1,zo6] at hr;cases hr
    ·simp [hi]
  ·rintro ⟨-,h0,h⟩;refine ⟨h0,fun k hk=>?_⟩;have hm:M[k]? =some M[k]:=List.getElem?_eq_getElem hk;have h3:=h k hk;simp only [zf,hm,Bool.and_eq_true,Bool.not_eq_true',decide_eq_false_iff_not] at h3;simp only [zi7,hm,h3.1.1.1.1,Bool.and_eq_true,Bool.not_eq_true',decide_eq_true_eq,Bool.not_false,and_true]
   have hin:M[k].i∈ids:=by
    by_cases hm:M[k].i∈ids
    ·exact hm
    ·exact absurd ((zr7 ids _).2 hm) h3.1.2
   refine ⟨⟨?_,hin⟩,?_⟩
   ·cases k with
    |zero=>rfl
    |succ j=>
     have hq:M[j]? =some (M[j]'(by omega)):=List.getElem?_eq_getElem (by omega);have h4:=h j (by omega);simp only [zf,hq,Bool.and_eq_true] at h4;simp only [hq] at h3 ⊢;rw [zm6 h4.1.1.1.2 h3.1.1.1.2];exact h3.1.1.2
   ·unfold zp8;rw [List.any_eq_false];intro o ho;obtain ⟨j,hj,e⟩:=List.mem_iff_getElem.1 ho;by_cases hi:o.i=M[k].i
    ·rcases Nat.lt_trichotomy j k with hjk|hjk|hjk
     ·exfalso;have h4:=List.all_eq_true.1 h3.2 o (List.mem_iff_getElem.2 ⟨j,by rw [List.length_take];omega,by rw [List.getElem_take];exact e⟩);simp [hi] at h4
     ·subst hjk;rw [←e];simp
     ·exfalso;have h5:=h j hj;have hmj:M[j]? =some M[j]:=List.getElem?_eq_getElem hj;simp only [zf,hmj,Bool.and_eq_true] at h5;have h4:=List.all_eq_true.1 h5.2 M[k] (List.mem_iff_getElem.2 ⟨k,by rw [List.length_take];omega,by rw [List.getElem_take]⟩);rw [e] at h4;simp [hi] at h4
    ·simp [hi]
theorem yg4 (next :Int) (N:List (Int × Bool)) (M:List Mn) (H:List Hn) (way:ByteArray→Bool):zt9 next N M H way=zb6 next N M H way:=by
 rw [Bool.eq_iff_iff];unfold zt9 zb6 zm5 zi0 zm2 zo3 zu0;simp only [Bool.and_eq_true,all_iff,zn4,mounts_iff,decide_eq_true_eq,stepH_iff,stepN_iff]
 constructor
 ·rintro ⟨⟨⟨⟨⟨⟨⟨h1,h2⟩,h3⟩,h4⟩,h5⟩,h6,h7,h8⟩,h9⟩,h10⟩;refine ⟨⟨⟨⟨?_,h4⟩,h3,h9⟩,⟨⟨h6,h2⟩,h7⟩,h8⟩,h1,h5,h10⟩;have hm:M[0]? =some M[0]:=List.getElem?_eq_getElem (by omega);have h:=h8 0 (by omega);simp only [zf,hm,Bool.and_eq_true,Bool.not_eq_true',decide_eq_false_iff_not] at h
  have hin:M[0].i∈N.map (·.1):=by
   by_cases hx:M[0].i∈N.map (·.1)
   ·exact hx
   ·exact absurd ((zr7 _ _).2 hx) h.1.2
  obtain ⟨k,hk,e⟩:=List.mem_iff_getElem.1 hin
  have h12:=((zy0 (N.map (·.1)) next).1 (fun k hk=>by
   have hk':k<N.length:=by simpa using hk
   have ht:N[k]? =some N[k]:=List.getElem?_eq_getElem hk';have :=h5 k hk';simp only [zj8,ht,Bool.and_eq_true] at this
   exact this.2)) k _ (List.getElem?_eq_getElem hk)
  omega
 ·rintro ⟨⟨⟨⟨h0,h4⟩,h3,h9⟩,⟨⟨h6,h2⟩,h7⟩,h8⟩,h1,h5,h10⟩;exact ⟨⟨⟨⟨⟨⟨⟨h1,h2⟩,h3⟩,h4⟩,h5⟩,h6,h7,h8⟩,h9⟩,h10⟩
end Pl
end
end Go.Proofs.YtgdjjncmocppeaaGreatDoor
