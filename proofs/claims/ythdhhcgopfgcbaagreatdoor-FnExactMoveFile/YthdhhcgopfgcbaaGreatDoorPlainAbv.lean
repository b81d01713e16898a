import Derived.Test.YthdhhcgopfgcbaaGreatDoorG16
import Derived.Test.YthdhhcgopfgcbaaGreatDoorG33
namespace Go.Proofs.YthdhhcgopfgcbaaGreatDoor
namespace Pl
theorem waysA_eq {p:ByteArray} (hp:za1 p=true):zi9 p=ways (names p) ((names p).length - 1):=by
 have e:zb4 p=parent p:=(zr3 hp).symm;have hall:=(zn9 hp).1
 have e2:names (parent p)=(names p).take ((names p).length - 1):=by
  rw [zq5,zo0 (fun t ht=>hall t (List.dropLast_subset _ ht)),List.dropLast_eq_take]
 rw [zi9,e,zc1 (yc5 hp),e2,List.length_take,Nat.min_eq_left (by omega)];unfold ways;refine List.map_congr_left (fun i hi=>?_);have :=List.mem_range.1 hi;rw [List.take_take,Nat.min_eq_left (by omega)]
theorem open_step {S L:List Nd} {q:ByteArray} {d:Nd} (hd:lk S q=some d) (hk:d.kind=1) (hz:d.data.size=0):zq0 S L q=zx6 S L q:=by
 have hp:=(ye1 hd).2
 have e:d.data=⟨#[]⟩:=by
  apply zi3
  rw [zh2.2 hz];rfl
 unfold zq0 zx6 dirN;rw [hd];obtain ⟨dp,dk,dd,dt,dm⟩:=d;simp only at hp hk e;subst hp hk e;cases lk L dp with
 |none=>rfl
 |some n=>rfl
theorem open_abv {S:List Nd}:∀ (qs:List ByteArray) (L:List Nd),(∀q∈qs,∃d,lk S q=some d∧d.kind=1∧d.data.size=0)→zg3 S L qs=abvN S L qs:=by
 intro qs
 induction qs with
 |nil=>intro L _;rfl
 |cons q qs ih=>
  intro L h;obtain ⟨d,h1,h2,h3⟩:=h q (List.mem_cons_self ..);have :=ih (zx6 S L q) (fun x hx=>h x (List.mem_cons_of_mem _ hx));rw [abvN,←this,←open_step h1 h2 h3];rfl
theorem abv_all {S L:List Nd} (ht:za5 S=true) (hL:za5 L=true) {p:ByteArray} (hp:za1 p=true) (hd:dirS S (parent p)=true):
  zg3 S L (zi9 p)=abvN S L (ways (names p) ((names p).length - 1))∧(∀q∈ways (names p) ((names p).length - 1),∃d,lk S q=some d)∧zc9 (abvN S L (ways (names p) ((names p).length - 1)))∧(abvN S L (ways (names p) ((names p).length - 1))).length≤60:=by
 have h:=way_K ht hp hd;have e:=open_abv (S:=S) _ L h
 have h2:∀q∈ways (names p) ((names p).length - 1),∃d,lk S q=some d:=fun q hq=>by
  obtain ⟨d,h1, -⟩:=h q hq;exact ⟨d,h1⟩
 have h3:=zv4 (zc9.zr0 ht) _ L (zc9.zr0 hL) h2;rw [e] at h3;refine ⟨by rw [waysA_eq hp];exact e,h2,h3.1,?_⟩;have h4:=((ze2 L).1 hL).1;have h5:=(zn9 hp).2;have h6:(ways (names p) ((names p).length - 1)).length=(names p).length - 1:=by simp [ways]
 omega
end Pl
end Go.Proofs.YthdhhcgopfgcbaaGreatDoor
