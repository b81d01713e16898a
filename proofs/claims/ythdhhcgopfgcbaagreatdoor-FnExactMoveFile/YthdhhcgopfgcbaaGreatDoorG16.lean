/- Several texts of one claim in one file: PlainAddC, PlainDirs, PlainWayA. -/
import Derived.Test.YthdhhcgopfgcbaaGreatDoorWPutS
import Derived.Test.YthdhhcgopfgcbaaGreatDoorG14
namespace Go.Proofs.YthdhhcgopfgcbaaGreatDoor
section
open Go.RowKit
namespace Pl
def addC (L:List Nd) (n:Nd):Int:=
 if (parent n.path).size≠0∧L.find? (fun m=>decide (m.path=parent n.path))=none then 6 else if dirS L (parent n.path)=false then 12 else if n.kind≠1∧ze4 L n.path=true then 11 else if L.find? (fun m=>decide (m.path=n.path))=none∧40≤L.length then 9 else 0
def addO (L:List Nd) (n:Nd):List Nd:=if addC L n=0 then putL L n else []
end Pl
end
section
namespace Pl
theorem ym7 {s:ByteArray} (h:s.size=0):names s=[]:=by
 have e:s=⟨#[]⟩:=by
  apply zi3
  rw [zh2.2 h];rfl
 rw [e];rfl
theorem glue_pos {L:List ByteArray} (h:∀t∈L,ze t=true) (hl:L≠[]):¬ (glue L).size=0:=fun e=>by
 have h2:=zo0 h;rw [ym7 e] at h2;exact hl h2.symm
theorem way_dirs {S:List Nd} (ht:za5 S=true) {p:ByteArray} (hp:za1 p=true) (hd:dirS S (parent p)=true):∀ (j k:Nat),k+j=(names p).length - 1→dirS S (glue ((names p).take k))=true:=by
 have hall:=zn9 hp;intro j
 induction j with
 |zero=>
  intro k hk;rw [zq5,List.dropLast_eq_take] at hd;rw [show k=(names p).length - 1 by omega];exact hd
 |succ j ih=>
  intro k hk;have h1:=ih (k+1) (by omega);rw [zt9 ((ze2 S).1 ht).2.2] at h1
  rcases h1 with h1|⟨m,hm,e, -⟩
  ·exact absurd h1 (glue_pos (zw2 hall.1 _) (fun e3=>by have :=congrArg List.length e3;rw [List.length_take,List.length_nil] at this;omega))
  ·have h2:=(((ze2 S).1 ht).2.1 m hm).2;rw [zq5,e,zo0 (zw2 hall.1 _)] at h2;have e2:((names p).take (k+1)).dropLast=(names p).take k:=by rw [List.dropLast_eq_take,List.length_take,Nat.min_eq_left (by omega),List.take_take];congr 1;omega
   rw [e2] at h2;exact h2
theorem way_K {S:List Nd} (ht:za5 S=true) {p:ByteArray} (hp:za1 p=true) (hd:dirS S (parent p)=true):∀q∈ways (names p) ((names p).length - 1),∃d,lk S q=some d∧d.kind=1∧d.data.size=0:=by
 intro q hq;obtain ⟨i,hi,rfl⟩:=List.mem_map.1 hq;have hi:=List.mem_range.1 hi;have h1:=way_dirs ht hp hd ((names p).length - 1 - (i+1)) (i+1) (by omega);have h0:¬ (glue ((names p).take (i+1))).size=0:=glue_pos (zw2 (zn9 hp).1 _) (fun e3=>by have :=congrArg List.length e3;rw [List.length_take,List.length_nil] at this;omega);unfold dirS at h1;simp only [h0,decide_false,Bool.false_or] at h1;cases hf:S.find? (fun m=>decide (m.path=glue ((names p).take (i+1)))) with
 |none=>rw [hf] at h1;cases h1
 |some d=>
  rw [hf] at h1;have hk:d.kind=1:=of_decide_eq_true h1;refine ⟨d,hf,hk,?_⟩;have h2:=(((ze2 S).1 ht).2.1 d (List.mem_of_find?_eq_some hf)).1
  have h3:zj9 d=true:=by
   unfold za7 at h2;simp only [Bool.and_eq_true] at h2;exact h2.2
  unfold zj9 at h3;rw [if_neg (by rw [hk];decide),if_pos hk] at h3;exact of_decide_eq_true h3
theorem dir_found {S:List Nd} (ht:za5 S=true) {p:ByteArray} (h:∃d,lk S p=some d):dirS S (parent p)=true:=by
 obtain ⟨d,hd⟩:=h;have h1:=List.mem_of_find?_eq_some hd;have h2:d.path=p:=by simpa using List.find?_some hd
 rw [←h2];exact (((ze2 S).1 ht).2.1 d h1).2
end Pl
end
section
namespace Pl
theorem way_up {S:List Nd} (ht:za5 S=true) {q:ByteArray} (hq:za1 q=true) (h:q.size=0∨∃m∈S,m.path=q):∀ (j k:Nat),k+j=(names q).length→0<k→∃m∈S,m.path=glue ((names q).take k):=by
 have hall:=zn9 hq;intro j
 induction j with
 |zero=>
  intro k hk h0
  rcases h with h|⟨m,hm,e⟩
  ·rw [ym7 h] at hk;simp at hk;omega
  ·exact ⟨m,hm,by rw [e,List.take_of_length_le (by omega),zo2]⟩
 |succ j ih=>
  intro k hk h0;obtain ⟨m,hm,e⟩:=ih (k+1) (by omega) (by omega);have hd:=(((ze2 S).1 ht).2.1 m hm).2;rw [zt9 ((ze2 S).1 ht).2.2,zq5,e,zo0 (zw2 hall.1 _)] at hd;have e2:((names q).take (k+1)).dropLast=(names q).take k:=by rw [List.dropLast_eq_take,List.length_take,Nat.min_eq_left (by omega),List.take_take];congr 1;omega
  rw [e2] at hd
  rcases hd with hd|⟨m',hm',e', -⟩
  ·exact absurd hd (glue_pos (zw2 hall.1 _) (fun e3=>by have :=congrArg List.length e3;rw [List.length_take,List.length_nil] at this;omega))
  ·exact ⟨m',hm',e'⟩
theorem way_all {S:List Nd} (ht:za5 S=true) {p:ByteArray} (hp:za1 p=true) (h:(parent p).size=0∨∃m∈S,m.path=parent p):∀q∈zi9 p,∃d,lk S q=some d:=by
 intro q hq;have hpp:za1 (parent p)=true:=yc5 hp;have e:zb4 p=parent p:=(zr3 hp).symm;rw [zi9,e,zc1 hpp] at hq;obtain ⟨i,hi,rfl⟩:=List.mem_map.1 hq;have hi:=List.mem_range.1 hi;obtain ⟨m,hm,e2⟩:=way_up ht hpp h ((names (parent p)).length - (i+1)) (i+1) (by omega) (by omega);cases hf:lk S (glue ((names (parent p)).take (i+1))) with
 |none=>exact absurd e2 (by simpa using List.find?_eq_none.1 hf m hm)
 |some d=>exact ⟨d,rfl⟩
theorem way_found {S:List Nd} (ht:za5 S=true) {p:ByteArray} {m:Nd} (hm:lk S p=some m):∀q∈zi9 p,∃d,lk S q=some d:=by
 obtain ⟨h1,h2⟩:=ye1 hm;have h3:=((ze2 S).1 ht).2.1 m h1;have hp:za1 p=true:=by rw [←h2];exact (zb1 h3.1).1
 have hd:=h3.2;rw [zt9 ((ze2 S).1 ht).2.2,h2] at hd;exact way_all ht hp (hd.imp id (fun ⟨m',a,b,_⟩=>⟨m',a,b⟩))
theorem way_add {S:List Nd} (ht:za5 S=true) {n:Nd} (hn:za7 n=true) (h:addC S n=0):∀q∈zi9 n.path,∃d,lk S q=some d:=by
 have hp:=(zb1 hn).1;refine way_all ht hp ?_
 have h2:dirS S (parent n.path)=true:=by
  cases hd:dirS S (parent n.path) with
  |true=>rfl
  |false=>
   unfold addC at h
   split at h
   ·cases h
   ·first |cases h|(rw [if_pos hd] at h;cases h)
 rw [zt9 ((ze2 S).1 ht).2.2] at h2;exact h2.imp id (fun ⟨m',a,b,_⟩=>⟨m',a,b⟩)
end Pl
end
end Go.Proofs.YthdhhcgopfgcbaaGreatDoor
