/- Several texts of one claim in one file: PlainSpace, PlainSpaceP, PlainNr, PlainNestAt. -/
import Derived.Test.YtbomeifgfalmdaaGreatDoorG09
namespace Go.Proofs.YtbomeifgfalmdaaGreatDoor
section
namespace Pl
def zd3:List Int→Int→Int
 | [],_=> -1
 |x::r,d=>if x=d then 0 else (if zd3 r d<0 then -1 else zd3 r d+1)
theorem instI_at {l:List Int} {d:Int} {k:Nat} (h:l[k]? =some d) (hn:∀j,j<k→l[j]?≠some d):zd3 l d=(k:Int):=by
 induction l generalizing k with
 |nil=>simp at h
 |cons x r ih=>
  rw [zd3];cases k with
  |zero=>simp at h;rw [if_pos h];rfl
  |succ k=>
   have h0:x≠d:=fun e=>hn 0 (by omega) (by simp [e]);have :=ih (k:=k) (by simpa using h) (fun j hj=>by simpa using hn (j+1) (by omega));rw [if_neg h0,this,if_neg (by omega)];omega
theorem instI_no {l:List Int} {d:Int} (hn:∀j:Nat,l[j]?≠some d):zd3 l d= -1:=by
 induction l with
 |nil=>rfl
 |cons x r ih=>
  have h0:x≠d:=fun e=>hn 0 (by simp [e]);have :=ih (fun j=>by simpa using hn (j+1));rw [zd3,if_neg h0,this];rfl
theorem zv6 (l:List Int) (d:Int):(zd3 l d<0)↔d∉l:=by
 induction l with
 |nil=>simp [zd3]
 |cons x r ih=>
  rw [zd3];by_cases h:x=d
  ·rw [if_pos h];simp [h]
  ·rw [if_neg h];by_cases h2:zd3 r d<0
   ·rw [if_pos h2];have :=ih.1 h2;simp [this,Ne.symm h]
   ·rw [if_neg h2]
    have h3:d∈r:=by
     by_cases hm:d∈r
     ·exact hm
     ·exact absurd (ih.2 hm) h2
    simp [h3];omega
def cntM (M:List Mn) (d:Int):Nat:=M.countP (fun x=>decide (x.i=d))
def cntH (H:List Hn) (d:Int):Nat:=H.countP (fun x=>decide (x.i=d))
theorem cntM_step {M:List Mn} {k:Nat} {x:Mn} (h:M[k]? =some x) (d:Int):cntM (M.take (k+1)) d=cntM (M.take k) d+(if x.i=d then 1 else 0):=by
 unfold cntM;rw [List.take_add_one,h,List.countP_append];simp [List.countP_cons]
theorem cntH_step {H:List Hn} {k:Nat} {x:Hn} (h:H[k]? =some x) (d:Int):cntH (H.take (k+1)) d=cntH (H.take k) d+(if x.i=d then 1 else 0):=by
 unfold cntH;rw [List.take_add_one,h,List.countP_append];simp [List.countP_cons]
theorem cntM_le (M:List Mn) (d:Int):cntM M d≤M.length:=List.countP_le_length
theorem cntH_le (H:List Hn) (d:Int):cntH H d≤H.length:=List.countP_le_length
def held (M:List Mn) (H:List Hn) (d:Int):Int:=(cntM M d:Int)+(cntH H d:Int)
def isB (x lo hi:Int):Bool:=decide (lo≤x)&&decide (x≤hi)
def zm5 (ids:List Int) (next :Int) (way:ByteArray→Bool) (H:List Hn) (i:Nat):Bool:=match H[i]? with
 |none=>true
 |some h=>isB h.d 1 (next - 1)&&(match i with |0=>true|j+1=>(match H[j]? with |none=>true|some p=>decide (p.d<h.d)))&&!decide (zd3 ids h.i<0)&&way h.p
def zo3 (ids:List Int) (next :Int) (way:ByteArray→Bool) (H:List Hn):Bool:=decide (H.length≤6)&&(List.range H.length).all (zm5 ids next way H)
def zl1 (M:List Mn) (H:List Hn) (next :Int) (N:List (Int × Bool)) (i:Nat):Bool:=match N[i]? with
 |none=>true
 |some x=>isB x.1 1 (next - 1)&&(match i with |0=>true|j+1=>(match N[j]? with |none=>true|some p=>decide (p.1<x.1)))&&x.2&&!decide (held M H x.1=0)
def zp0 (M:List Mn) (H:List Hn) (next :Int) (N:List (Int × Bool)):Bool:=decide (N.length≤12)&&(List.range N.length).all (zl1 M H next N)
def zg8 (ids:List Int) (M:List Mn) (i:Nat):Bool:=match M[i]? with
 |none=>true
 |some m=>!m.z&&za0 m.p&&(match i with |0=>true|j+1=>(match M[j]? with |none=>true|some p=>za7 (names p.p) (names m.p)))&&!decide (zd3 ids m.i<0)&&(M.take i).all (fun p=>!decide (p.i=m.i))
def zj6 (ids:List Int) (M:List Mn):Bool:=decide (1≤M.length)&&decide (M.length≤6)&&(match M with | []=>true|m::_=>decide (m.p.size=0))&&(List.range M.length).all (zg8 ids M)
theorem ya3 {n k:Nat} {f:Nat→Bool} (hk:k<n) (h:f k=false):(List.range n).all f=false:=by
 rw [List.all_eq_false];exact ⟨k,List.mem_range.2 hk,by rw [h];decide⟩
theorem zw9 {n:Nat} {f:Nat→Bool} (h:∀k,k<n→f k=true):(List.range n).all f=true:=by
 rw [List.all_eq_true];exact fun k hk=>h k (List.mem_range.1 hk)
def zc4 (next :Int) (N:List (Int × Bool)) (M:List Mn) (H:List Hn) (way:ByteArray→Bool):Bool:=isB next 1 1000000&&zo3 (N.map (·.1)) next way H&&zj6 (N.map (·.1)) M&&zp0 M H next N
end Pl
end
section
namespace Pl
def zi6 (l:List Int):Nat→Int
 |0=>0
 |j+1=>match l[j]? with |none=>0|some x=>x
def zp3 (l:List Int) (next :Int) (i:Nat):Bool:=match l[i]? with
 |none=>true
 |some x=>decide (zi6 l i<x)&&decide (x<next)
def zl0 (N:List (Int × Bool)) (next :Int) (i:Nat):Bool:=match N[i]? with
 |none=>true
 |some x=>x.2&&zp3 (N.map (·.1)) next i
def zq4 (N:List (Int × Bool)) (next :Int):Bool:=(List.range N.length).all (zl0 N next)
def zs5 (M:List Mn) (m:Mn):Bool:=M.any (fun o=>!(decide (o.p=m.p)&&decide (o.i=m.i)&&decide (o.z=m.z))&&decide (o.i=m.i))
def zk8 (ids:List Int) (M:List Mn) (i:Nat):Bool:=match M[i]? with
 |none=>true
 |some m=>(match i with |0=>true|j+1=>(match M[j]? with |none=>true|some p=>ltP p.p m.p))&&decide (m.i∈ids)&&!m.z&&!zs5 M m
def zl5 (ids:List Int) (M:List Mn):Bool:=(match M with | []=>false|m::_=>decide (m.p.size=0))&&(List.range M.length).all (zk8 ids M)
def zs8 (ids:List Int) (next :Int) (way:ByteArray→Bool) (H:List Hn) (i:Nat):Bool:=match H[i]? with
 |none=>true
 |some h=>zp3 (H.map (·.d)) next i&&way h.p&&decide (h.i∈ids)
def zx6 (ids:List Int) (next :Int) (way:ByteArray→Bool) (H:List Hn):Bool:=(List.range H.length).all (zs8 ids next way H)
def zr4 (ids:List Int) (M:List Mn) (H:List Hn):Bool:=ids.all (fun d=>!decide (held M H d=0))
def zx1 (next :Int) (N:List (Int × Bool)) (M:List Mn) (H:List Hn) (way:ByteArray→Bool):Bool:=
 decide (N.length≤12)&&decide (M.length≤6)&&decide (H.length≤6)&&decide (next ≤1000000)&&zq4 N next &&zl5 (N.map (·.1)) M&&zx6 (N.map (·.1)) next way H&&zr4 (N.map (·.1)) M H
theorem all_iff {n:Nat} {f:Nat→Bool}:(List.range n).all f=true↔∀k,k<n→f k=true:=by
 rw [List.all_eq_true];exact ⟨fun h k hk=>h k (List.mem_range.2 hk),fun h k hk=>h k (List.mem_range.1 hk)⟩
theorem rise_pos {l:List Int} {next :Int} (h:∀k,k<l.length→zp3 l next k=true):∀ (k:Nat) (x:Int),l[k]? =some x→1≤x∧x<next :=by
 intro k
 induction k with
 |zero=>
  intro x hx;have :=h 0 (List.getElem?_eq_some_iff.1 hx).1;simp only [zp3,hx,Bool.and_eq_true,decide_eq_true_eq] at this;have h2:zi6 l 0=0:=rfl;omega
 |succ k ih=>
  intro x hx;have hl:=(List.getElem?_eq_some_iff.1 hx).1;have :=h (k+1) hl;have hk:l[k]? =some (l[k]'(by omega)):=List.getElem?_eq_getElem (by omega);simp only [zp3,hx,zi6,hk,Bool.and_eq_true,decide_eq_true_eq] at this;have :=ih _ hk;omega
theorem ya8 (l:List Int) (next :Int):(∀k,k<l.length→zp3 l next k=true)↔∀ (k:Nat) (x:Int),l[k]? =some x→(1≤x∧x≤next - 1)∧∀ (j:Nat) (p:Int),k=j+1→l[j]? =some p→p<x:=by
 constructor
 ·intro h k x hx;have h1:=rise_pos h k x hx;refine ⟨⟨h1.1,by omega⟩,fun j p e hp=>?_⟩;subst e;have :=h (j+1) (List.getElem?_eq_some_iff.1 hx).1;simp only [zp3,hx,zi6,hp,Bool.and_eq_true,decide_eq_true_eq] at this;exact this.1
 ·intro h k hk;have hx:l[k]? =some l[k]:=List.getElem?_eq_getElem hk;obtain ⟨h1,h2⟩:=h k _ hx;simp only [zp3,hx,Bool.and_eq_true,decide_eq_true_eq];refine ⟨?_,by omega⟩;cases k with
  |zero=>simp only [zi6];omega
  |succ j=>
   have hp:l[j]? =some (l[j]'(by omega)):=List.getElem?_eq_getElem (by omega);simp only [zi6,hp];exact h2 j _ rfl hp
theorem zp4 (x lo hi:Int):isB x lo hi=true↔lo≤x∧x≤hi:=by simp [isB]
def prevL (l:List Int) (x:Int):Nat→Bool
 |0=>true
 |j+1=>match l[j]? with |none=>true|some p=>decide (p<x)
theorem yd4 (l:List Int) (k:Nat) (x:Int):prevL l x k=true↔∀ (j:Nat) (p:Int),k=j+1→l[j]? =some p→p<x:=by
 cases k with
 |zero=>simp [prevL]
 |succ j=>
  unfold prevL;cases hp:l[j]? with
  |none=>simp only [hp,true_iff];intro j' p e h';cases e;rw [hp] at h';cases h'
  |some q=>simp only [hp,decide_eq_true_eq];exact ⟨fun h j' p e h'=>by cases e;rw [hp] at h';cases h';exact h,fun h=>h j q rfl hp⟩
theorem stepH_eq {ids:List Int} {next :Int} {way:ByteArray→Bool} {H:List Hn} {k:Nat} {t:Hn} (ht:H[k]? =some t):zm5 ids next way H k=(isB t.d 1 (next - 1)&&prevL (H.map (·.d)) t.d k&&!decide (zd3 ids t.i<0)&&way t.p):=by
 unfold zm5;rw [ht];cases k with
 |zero=>rfl
 |succ j=>
  simp only [prevL,List.getElem?_map];cases H[j]? <;> rfl
theorem yc1 {M:List Mn} {H:List Hn} {next :Int} {N:List (Int × Bool)} {k:Nat} {t:Int × Bool} (ht:N[k]? =some t):zl1 M H next N k=(isB t.1 1 (next - 1)&&prevL (N.map (·.1)) t.1 k&&t.2&&!decide (held M H t.1=0)):=by
 unfold zl1;rw [ht];cases k with
 |zero=>rfl
 |succ j=>
  simp only [prevL,List.getElem?_map];cases N[j]? <;> rfl
theorem stepH_iff (ids:List Int) (next :Int) (way:ByteArray→Bool) (H:List Hn):(∀k,k<H.length→zm5 ids next way H k=true)↔(∀k,k<H.length→zs8 ids next way H k=true):=by
 have hr:=ya8 (H.map (·.d)) next
 constructor
 ·intro h
  have h1:∀ (k:Nat) (x:Int),(H.map (·.d))[k]? =some x→(1≤x∧x≤next - 1)∧∀ (j:Nat) (p:Int),k=j+1→(H.map (·.d))[j]? =some p→p<x:=by
   intro k x hx;rw [List.getElem?_map,Option.map_eq_some_iff] at hx;obtain ⟨t,ht,rfl⟩:=hx;have :=h k (List.getElem?_eq_some_iff.1 ht).1;simp only [stepH_eq ht,Bool.and_eq_true,zp4] at this;exact ⟨this.1.1.1,(yd4 _ _ _).1 this.1.1.2⟩
  intro k hk;have ht:H[k]? =some H[k]:=List.getElem?_eq_getElem hk;have h2:=hr.2 h1 k (by simpa using hk);have h3:=h k hk;simp only [stepH_eq ht,Bool.and_eq_true,Bool.not_eq_true',decide_eq_false_iff_not] at h3;simp only [zs8,ht,h2,h3.2,Bool.true_and,decide_eq_true_eq];by_cases hm:H[k].i∈ids
  ·exact hm
  ·exact absurd ((zv6 ids _).2 hm) h3.1.2
 ·intro h
  have h1:=hr.1 (fun k hk=>by
   have hk':k<H.length:=by simpa using hk
   have ht:H[k]? =some H[k]:=List.getElem?_eq_getElem hk';have :=h k hk';simp only [zs8,ht,Bool.and_eq_true] at this
   exact this.1.1)
  intro k hk;have ht:H[k]? =some H[k]:=List.getElem?_eq_getElem hk;have h2:=h1 k H[k].d (by rw [List.getElem?_map,ht];rfl);have h3:=h k hk;simp only [zs8,ht,Bool.and_eq_true,decide_eq_true_eq] at h3;simp only [stepH_eq ht,Bool.and_eq_true,zp4,Bool.not_eq_true',decide_eq_false_iff_not];exact ⟨⟨⟨h2.1,(yd4 _ _ _).2 h2.2⟩,fun e=>(zv6 ids _).1 e h3.2⟩,h3.1.2⟩
theorem stepN_iff (M:List Mn) (H:List Hn) (next :Int) (N:List (Int × Bool)):(∀k,k<N.length→zl1 M H next N k=true)↔(∀k,k<N.length→zl0 N next k=true)∧zr4 (N.map (·.1)) M H=true:=by
 have hr:=ya8 (N.map (·.1)) next
 constructor
 ·intro h
  have h1:∀ (k:Nat) (x:Int),(N.map (·.1))[k]? =some x→(1≤x∧x≤next - 1)∧∀ (j:Nat) (p:Int),k=j+1→(N.map (·.1))[j]? =some p→p<x:=by
   intro k x hx;rw [List.getElem?_map,Option.map_eq_some_iff] at hx;obtain ⟨t,ht,rfl⟩:=hx;have :=h k (List.getElem?_eq_some_iff.1 ht).1;simp only [yc1 ht,Bool.and_eq_true,zp4] at this;exact ⟨this.1.1.1,(yd4 _ _ _).1 this.1.1.2⟩
  refine ⟨fun k hk=>?_,?_⟩
  ·have ht:N[k]? =some N[k]:=List.getElem?_eq_getElem hk;have h2:=hr.2 h1 k (by simpa using hk);have h3:=h k hk;simp only [yc1 ht,Bool.and_eq_true] at h3;simp only [zl0,ht,h2,h3.1.2,Bool.and_self]
  ·unfold zr4;rw [List.all_eq_true];intro d hd;obtain ⟨k,hk,e⟩:=List.mem_iff_getElem.1 hd;have hk':k<N.length:=by simpa using hk
   have ht:N[k]? =some N[k]:=List.getElem?_eq_getElem hk';have h3:=h k hk';simp only [yc1 ht,Bool.and_eq_true] at h3;rw [←e,List.getElem_map];exact h3.2
 ·rintro ⟨h,hu⟩
  have h1:=hr.1 (fun k hk=>by
   have hk':k<N.length:=by simpa using hk
   have ht:N[k]? =some N[k]:=List.getElem?_eq_getElem hk';have :=h k hk';simp only [zl0,ht,Bool.and_eq_true] at this
   exact this.2)
  intro k hk;have ht:N[k]? =some N[k]:=List.getElem?_eq_getElem hk;have h2:=h1 k N[k].1 (by rw [List.getElem?_map,ht];rfl);have h3:=h k hk;simp only [zl0,ht,Bool.and_eq_true] at h3;simp only [yc1 ht,Bool.and_eq_true,zp4];refine ⟨⟨⟨h2.1,(yd4 _ _ _).2 h2.2⟩,h3.1⟩,?_⟩;exact List.all_eq_true.1 hu _ (List.mem_map.2 ⟨_,List.getElem_mem hk,rfl⟩)
theorem yg7 {M:List Mn} (hp:∀ (k:Nat) (m:Mn),M[k]? =some m→∀ (j:Nat) (q:Mn),k=j+1→M[j]? =some q→za7 (names q.p) (names m.p)=true):∀ (k j:Nat) (a b:Mn),M[j]? =some a→M[k]? =some b→j<k→za7 (names a.p) (names b.p)=true:=by
 intro k
 induction k with
 |zero=>intro j a b _ _ h;omega
 |succ k ih=>
  intro j a b ha hb h;have hl:=(List.getElem?_eq_some_iff.1 hb).1;have hk:M[k]? =some (M[k]'(by omega)):=List.getElem?_eq_getElem (by omega);have h1:=hp (k+1) b hb k _ rfl hk;by_cases e:j=k
  ·subst e;rw [hk] at ha;cases ha;exact h1
  ·exact zn3 _ _ _ (ih j a _ ha hk (by omega)) h1
theorem mounts_iff (ids:List Int) (M:List Mn):zl5 ids M=true↔decide (1≤M.length)=true∧(match M with | []=>true|m::_=>decide (m.p.size=0))=true∧∀k,k<M.length→zg8 ids M k=true:=by
 cases M with
 |nil=>simp [zl5]
 |cons m0 R=>
  unfold zl5;rw [Bool.and_eq_true,all_iff];simp only [List.length_cons,decide_eq_true_eq];generalize hM:m0::R=M;have hl:R.length+1=M.length:=by rw [←hM];rfl
  rw [hl];have h00:M[0]? =some m0:=by rw [←hM];rfl
  constructor
  ·rintro ⟨h0,h⟩
   have hless:∀ (k:Nat) (m:Mn),M[k]? =some m→∀ (j:Nat) (q:Mn),k=j+1→M[j]? =some q→ltP q.p m.p=true:=by
    intro k m hm j q e hq;subst e;have :=h (j+1) (List.getElem?_eq_some_iff.1 hm).1;simp only [zk8,hm,hq,Bool.and_eq_true] at this;exact this.1.1.1
   have hright:∀ (k:Nat) (m:Mn),M[k]? =some m→za0 m.p=true:=by
    intro k m hm;cases k with
    |zero=>rw [h00] at hm;cases hm;exact (zj1 h0).1
    |succ j=>
     have hl2:=(List.getElem?_eq_some_iff.1 hm).1;have hq:M[j]? =some (M[j]'(by omega)):=List.getElem?_eq_getElem (by omega);have :=hless (j+1) m hm j _ rfl hq;unfold ltP at this;simp only [Bool.and_eq_true] at this;exact this.1.2
   have hless2:∀ (k:Nat) (m:Mn),M[k]? =some m→∀ (j:Nat) (q:Mn),k=j+1→M[j]? =some q→za7 (names q.p) (names m.p)=true:=fun k m hm j q e hq=>by
    rw [←zo2 (hright j q hq) (hright k m hm)];exact hless k m hm j q e hq
   refine ⟨by omega,h0,fun k hk=>?_⟩;have hm:M[k]? =some M[k]:=List.getElem?_eq_getElem hk;have h3:=h k hk;simp only [zk8,hm,Bool.and_eq_true,Bool.not_eq_true',decide_eq_true_eq] at h3;simp only [zg8,hm,hright k _ hm,h3.1.2,Bool.and_eq_true,Bool.not_eq_true',decide_eq_false_iff_not,Bool.not_false,Bool.true_and];refine ⟨⟨?_,fun e=>(zv6 ids _).1 e h3.1.1.2⟩,?_⟩
   ·cases k with
    |zero=>rfl
    |succ j=>
     have hq:M[j]? =some (M[j]'(by omega)):=List.getElem?_eq_getElem (by omega);simp only [hq];exact hless2 (j+1) _ hm j _ rfl hq
   ·rw [List.all_eq_true];intro o ho;obtain ⟨j,hj,e⟩:=List.mem_iff_getElem.1 ho;rw [List.length_take] at hj;have hoj:M[j]? =some o:=by rw [←e,List.getElem_take];exact List.getElem?_eq_getElem (by omega)
    have hr:=yg7 hless2 k j o _ hoj hm (by omega);by_cases hi:o.i=M[k].i
    ·exfalso;have h4:=h3.2;unfold zs5 at h4;rw [List.any_eq_false] at h4;have h5:=h4 o (List.mem_of_getElem? hoj);simp only [hi,decide_true,Bool.and_true,Bool.not_eq_true',Bool.not_eq_false,Bool.and_eq_true,decide_eq_true_eq] at h5;rw [h5.1,zq9] at hr;cases hr
    ·simp [hi]
  ·rintro ⟨-,h0,h⟩;refine ⟨h0,fun k hk=>?_⟩;have hm:M[k]? =some M[k]:=List.getElem?_eq_getElem hk;have h3:=h k hk;simp only [zg8,hm,Bool.and_eq_true,Bool.not_eq_true',decide_eq_false_iff_not] at h3;simp only [zk8,hm,h3.1.1.1.1,Bool.and_eq_true,Bool.not_eq_true',decide_eq_true_eq,Bool.not_false,and_true]
   have hin:M[k].i∈ids:=by
    by_cases hm:M[k].i∈ids
    ·exact hm
    ·exact absurd ((zv6 ids _).2 hm) h3.1.2
   refine ⟨⟨?_,hin⟩,?_⟩
   ·cases k with
    |zero=>rfl
    |succ j=>
     have hq:M[j]? =some (M[j]'(by omega)):=List.getElem?_eq_getElem (by omega);have h4:=h j (by omega);simp only [zg8,hq,Bool.and_eq_true] at h4;simp only [hq] at h3 ⊢;rw [zo2 h4.1.1.1.2 h3.1.1.1.2];exact h3.1.1.2
   ·unfold zs5;rw [List.any_eq_false];intro o ho;obtain ⟨j,hj,e⟩:=List.mem_iff_getElem.1 ho;by_cases hi:o.i=M[k].i
    ·rcases Nat.lt_trichotomy j k with hjk|hjk|hjk
     ·exfalso;have h4:=List.all_eq_true.1 h3.2 o (List.mem_iff_getElem.2 ⟨j,by rw [List.length_take];omega,by rw [List.getElem_take];exact e⟩);simp [hi] at h4
     ·subst hjk;rw [←e];simp
     ·exfalso;have h5:=h j hj;have hmj:M[j]? =some M[j]:=List.getElem?_eq_getElem hj;simp only [zg8,hmj,Bool.and_eq_true] at h5;have h4:=List.all_eq_true.1 h5.2 M[k] (List.mem_iff_getElem.2 ⟨k,by rw [List.length_take];omega,by rw [List.getElem_take]⟩);rw [e] at h4;simp [hi] at h4
    ·simp [hi]
theorem yk0 (next :Int) (N:List (Int × Bool)) (M:List Mn) (H:List Hn) (way:ByteArray→Bool):zx1 next N M H way=zc4 next N M H way:=by
 rw [Bool.eq_iff_iff];unfold zx1 zc4 zo3 zj6 zp0 zq4 zx6;simp only [Bool.and_eq_true,all_iff,zp4,mounts_iff,decide_eq_true_eq,stepH_iff,stepN_iff]
 constructor
 ·rintro ⟨⟨⟨⟨⟨⟨⟨h1,h2⟩,h3⟩,h4⟩,h5⟩,h6,h7,h8⟩,h9⟩,h10⟩;refine ⟨⟨⟨⟨?_,h4⟩,h3,h9⟩,⟨⟨h6,h2⟩,h7⟩,h8⟩,h1,h5,h10⟩;have hm:M[0]? =some M[0]:=List.getElem?_eq_getElem (by omega);have h:=h8 0 (by omega);simp only [zg8,hm,Bool.and_eq_true,Bool.not_eq_true',decide_eq_false_iff_not] at h
  have hin:M[0].i∈N.map (·.1):=by
   by_cases hx:M[0].i∈N.map (·.1)
   ·exact hx
   ·exact absurd ((zv6 _ _).2 hx) h.1.2
  obtain ⟨k,hk,e⟩:=List.mem_iff_getElem.1 hin
  have h12:=((ya8 (N.map (·.1)) next).1 (fun k hk=>by
   have hk':k<N.length:=by simpa using hk
   have ht:N[k]? =some N[k]:=List.getElem?_eq_getElem hk';have :=h5 k hk';simp only [zl0,ht,Bool.and_eq_true] at this
   exact this.2)) k _ (List.getElem?_eq_getElem hk)
  omega
 ·rintro ⟨⟨⟨⟨h0,h4⟩,h3,h9⟩,⟨⟨h6,h2⟩,h7⟩,h8⟩,h1,h5,h10⟩;exact ⟨⟨⟨⟨⟨⟨⟨h1,h2⟩,h3⟩,h4⟩,h5⟩,h6,h7,h8⟩,h9⟩,h10⟩
end Pl
end
section
namespace WSp
def nr (x:Pl.Ns):Int × Bool:=(x.d,(Pl.nest (Pl.rowO (x.Is.map Pl.It.r))).isSome)
end WSp
end
section
namespace Pl
def zo5:List (Int × List (Int × List Nd))→Int→Option (List (Int × List Nd))
 | [],_=>none
 |x::r,d=>if x.1=d then some x.2 else zo5 r d
theorem nestAt_inst (N:List Ns) (d:Int):(zd3 (N.map (·.d)) d<0→zo5 (N.map Ns.r) d=none)∧(∀k:Nat,zd3 (N.map (·.d)) d=(k:Int)→∃x,N[k]? =some x∧zo5 (N.map Ns.r) d=some (x.Is.map It.r)):=by
 induction N with
 |nil=>exact ⟨fun _=>rfl,fun k h=>by simp [zd3] at h⟩
 |cons x N ih=>
  simp only [List.map_cons,zd3,zo5];by_cases h:x.d=d
  ·rw [if_pos h];refine ⟨fun h0=>by omega,fun k hk=>⟨x,?_,by rw [if_pos (show x.r.1=d from h)];rfl⟩⟩;obtain rfl:k=0:=by omega
   rfl
  ·rw [if_neg h,if_neg (show ¬x.r.1=d from h)];by_cases h2:zd3 (N.map (·.d)) d<0
   ·rw [if_pos h2];exact ⟨fun _=>ih.1 h2,fun k hk=>by omega⟩
   ·rw [if_neg h2];refine ⟨fun h0=>by omega,fun k hk=>?_⟩;obtain ⟨k,rfl⟩:∃j,k=j+1:=⟨k - 1,by omega⟩;obtain ⟨y,h3,h4⟩:=ih.2 k (by omega);exact ⟨y,by simpa using h3,h4⟩
theorem nestAt_get {P:Nv→Ns→Prop}:∀ (E:List (Int × Nv)) (N:List Ns) (d:Int),E.map (·.1)=N.map (·.d)→(∀ (i:Nat) y,E[i]? =some y→∃x,N[i]? =some x∧P y.2 x)→(d∉E.map (·.1)→zo5 (N.map Ns.r) d=none)∧(d∈E.map (·.1)→∃x,zo5 (N.map Ns.r) d=some (x.Is.map It.r)∧P (getN E d) x∧x∈N):=by
 intro E
 induction E with
 |nil=>
  intro N d h _;have :N=[]:=by cases N with |nil=>rfl |cons a b=>simp at h
  subst this;exact ⟨fun _=>rfl,fun h=>by simp at h⟩
 |cons y E ih=>
  intro N d h hP;cases N with
  |nil=>simp at h
  |cons x N=>
   simp only [List.map_cons,List.cons.injEq] at h;obtain ⟨h1,h2⟩:=h
   obtain ⟨i1,i2⟩:=ih N d h2 (fun i z hz=>by
    obtain ⟨x',k1,k2⟩:=hP (i+1) z (by simpa using hz)
    exact ⟨x',by simpa using k1,k2⟩)
   simp only [List.map_cons,zo5,List.mem_cons];by_cases e:y.1=d
   ·have e2:x.r.1=d:=by show x.d=d;rw [←h1];exact e
    rw [if_pos e2];refine ⟨fun hn=>absurd (Or.inl e.symm) hn,fun _=>?_⟩;obtain ⟨x',k1,k2⟩:=hP 0 y rfl;simp at k1
    subst k1;refine ⟨x,rfl,?_, .inl rfl⟩;unfold getN;rw [List.find?_cons,decide_eq_true e];exact k2
   ·have e2:¬x.r.1=d:=by show ¬x.d=d;rw [←h1];exact e
    rw [if_neg e2];refine ⟨fun hn=>i1 (fun hm=>hn (.inr hm)),fun hm=>?_⟩
    rcases hm with hm|hm
    ·exact absurd hm.symm e
    obtain ⟨x',k1,k2,k3⟩:=i2 hm;refine ⟨x',k1,?_, .inr k3⟩;unfold getN at k2 ⊢;rw [List.find?_cons,decide_eq_false e];exact k2
theorem nest_small {xs:List (Int × List Nd)} (h:(nest (rowO xs)).isSome=true):xs.length≤12∧xs.length≠0∧∀x∈xs,x.2.length≤40:=by
 cases hF:nest (rowO xs) with
 |none=>rw [hF] at h;cases h
 |some F=>
  obtain ⟨L,k, -,hfl,hko, -⟩:=zr5 hF;refine ⟨yb7 hF,?_,fun x hx=>?_⟩
  ·rw [←hfl];simp [Fx.flat]
  ·rw [←hfl] at hx;have :=(Fx.ok_mem hko x hx).1;unfold zc7 at this;exact of_decide_eq_true ((Bool.and_eq_true _ _).mp this).1
theorem yh4 {N:List Ns} {M:List Mn} {H:List Hn} {next :Int} {way:ByteArray→Bool} (h:zc4 next (N.map WSp.nr) M H way=true):∀x∈N,(nest (rowO (x.Is.map It.r))).isSome=true:=by
 rw [←yk0] at h;unfold zx1 zq4 at h;simp only [Bool.and_eq_true,all_iff] at h;intro x hx;obtain ⟨k,hk,e⟩:=List.mem_iff_getElem.1 hx;have h1:=h.1.1.1.2 k (by simpa using hk);have ht:(N.map WSp.nr)[k]? =some (WSp.nr x):=by rw [List.getElem?_map,List.getElem?_eq_getElem hk,e];rfl
 simp only [zl0,ht,Bool.and_eq_true] at h1;exact h1.1
end Pl
end
end Go.Proofs.YtbomeifgfalmdaaGreatDoor
