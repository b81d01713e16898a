import Derived.Test.YtpggbphcbcogdaaGreatDoorPlainSight
import Derived.Test.YtpggbphcbcogdaaGreatDoorWPathsTo
import Derived.Test.YtpggbphcbcogdaaGreatDoorPlainTreeI
namespace Go.Proofs.YtpggbphcbcogdaaGreatDoor
namespace Pl
theorem zl1 {s:ByteArray} (h:s.size=0):names s=[]:=by
 have e:s=⟨#[]⟩:=by
  apply zh7
  rw [zf7.2 h];rfl
 rw [e];rfl
theorem glue_pos {L:List ByteArray} (h:∀t∈L,zb4 t=true) (hl:L≠[]):¬ (glue L).size=0:=fun e=>by
 have h2:=zi4 h;rw [zl1 e] at h2;exact hl h2.symm
theorem way_dirs {S:List Nd} (ht:zb9 S=true) {p:ByteArray} (hp:za2 p=true) (hd:dirS S (parent p)=true):∀ (j k:Nat),k+j=(names p).length - 1→dirS S (glue ((names p).take k))=true:=by
 have hall:=zk9 hp;intro j
 induction j with
 |zero=>
  intro k hk;rw [zn4,List.dropLast_eq_take] at hd;rw [show k=(names p).length - 1 by omega];exact hd
 |succ j ih=>
  intro k hk;have h1:=ih (k+1) (by omega);rw [dirS_iff ((zk7 S).1 ht).2.2] at h1
  rcases h1 with h1|⟨m,hm,e, -⟩
  ·exact absurd h1 (glue_pos (zn1 hall.1 _) (fun e3=>by have :=congrArg List.length e3;rw [List.length_take,List.length_nil] at this;omega))
  ·have h2:=(((zk7 S).1 ht).2.1 m hm).2;rw [zn4,e,zi4 (zn1 hall.1 _)] at h2;have e2:((names p).take (k+1)).dropLast=(names p).take k:=by rw [List.dropLast_eq_take,List.length_take,Nat.min_eq_left (by omega),List.take_take];congr 1;omega
   rw [e2] at h2;exact h2
theorem way_K {S:List Nd} (ht:zb9 S=true) {p:ByteArray} (hp:za2 p=true) (hd:dirS S (parent p)=true):∀q∈ways (names p) ((names p).length - 1),∃d,lk S q=some d∧d.kind=1∧d.data.size=0:=by
 intro q hq;obtain ⟨i,hi,rfl⟩:=List.mem_map.1 hq;have hi:=List.mem_range.1 hi;have h1:=way_dirs ht hp hd ((names p).length - 1 - (i+1)) (i+1) (by omega);have h0:¬ (glue ((names p).take (i+1))).size=0:=glue_pos (zn1 (zk9 hp).1 _) (fun e3=>by have :=congrArg List.length e3;rw [List.length_take,List.length_nil] at this;omega);unfold dirS at h1;simp only [h0,decide_false,Bool.false_or] at h1;cases hf:S.find? (fun m=>decide (m.path=glue ((names p).take (i+1)))) with
 |none=>rw [hf] at h1;cases h1
 |some d=>
  rw [hf] at h1;have hk:d.kind=1:=of_decide_eq_true h1;refine ⟨d,hf,hk,?_⟩;have h2:=(((zk7 S).1 ht).2.1 d (List.mem_of_find?_eq_some hf)).1
  have h3:zg3 d=true:=by
   unfold zb3 at h2;simp only [Bool.and_eq_true] at h2;exact h2.2
  unfold zg3 at h3;rw [if_neg (by rw [hk];decide),if_pos hk] at h3;exact of_decide_eq_true h3
theorem dir_found {S:List Nd} (ht:zb9 S=true) {p:ByteArray} (h:∃d,lk S p=some d):dirS S (parent p)=true:=by
 obtain ⟨d,hd⟩:=h;have h1:=List.mem_of_find?_eq_some hd;have h2:d.path=p:=by simpa using List.find?_some hd
 rw [←h2];exact (((zk7 S).1 ht).2.1 d h1).2
end Pl
end Go.Proofs.YtpggbphcbcogdaaGreatDoor
