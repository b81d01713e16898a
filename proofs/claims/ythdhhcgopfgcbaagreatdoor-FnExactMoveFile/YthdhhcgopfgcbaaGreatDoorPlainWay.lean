import Derived.Test.YthdhhcgopfgcbaaGreatDoorMapPutL
namespace Go.Proofs.YthdhhcgopfgcbaaGreatDoor
namespace Pl
def zq0 (S L:List Nd) (p:ByteArray):List Nd:=
 match lk L p with
 |some n=>if n.kind=0 then putL L { (lk S p).getD za6 with mark:=n.mark } else L
 |none=>putL L { (lk S p).getD za6 with mark:=0 }
def zg3 (S L:List Nd) (ps:List ByteArray):List Nd:=ps.foldl (zq0 S) L
theorem open_snoc (S L:List Nd) (ps:List ByteArray) (p:ByteArray):zg3 S L (ps++[p])=zq0 S (zg3 S L ps) p:=by simp [zg3]
theorem ye1 {L:List Nd} {p:ByteArray} {n:Nd} (h:lk L p=some n):n∈L∧n.path=p:=⟨List.mem_of_find?_eq_some h,by simpa using List.find?_some h⟩
theorem openN_rise {S L:List Nd} {p:ByteArray} (hS:zc9 S) (hL:zc9 L) {d:Nd} (hd:lk S p=some d):zc9 (zq0 S L p):=by
 obtain ⟨h1,h2⟩:=ye1 hd;have hp:za1 p=true:=by rw [←h2];exact (hS.path d h1).1
 unfold zq0;rw [hd]
 split
 ·split
  ·exact hL.put (n:={ d with mark:=_ }) (by show za1 d.path=true;rw [h2];exact hp) (hS.path d h1).2
  ·exact hL
 ·exact hL.put (n:={ d with mark:=0 }) (by show za1 d.path=true;rw [h2];exact hp) (hS.path d h1).2
theorem openN_len (S L:List Nd) (p:ByteArray):(zq0 S L p).length≤L.length+1:=by
 unfold zq0
 split
 ·split
  ·exact ye0 _ _
  ·omega
 ·exact ye0 _ _
theorem zv4 {S:List Nd} (hS:zc9 S):∀ (ps:List ByteArray) (L:List Nd),zc9 L→(∀p∈ps,∃d,lk S p=some d)→zc9 (zg3 S L ps)∧(zg3 S L ps).length≤L.length+ps.length:=by
 intro ps
 induction ps with
 |nil=>intro L hL _;exact ⟨hL,Nat.le_refl _⟩
 |cons p ps ih=>
  intro L hL h;obtain ⟨d,hd⟩:=h p (List.mem_cons_self ..);obtain ⟨h1,h2⟩:=ih (zq0 S L p) (openN_rise hS hL hd) (fun q hq=>h q (List.mem_cons_of_mem _ hq));refine ⟨h1,?_⟩;have :=openN_len S L p;rw [List.length_cons];exact Nat.le_trans h2 (by omega)
end Pl
end Go.Proofs.YthdhhcgopfgcbaaGreatDoor
