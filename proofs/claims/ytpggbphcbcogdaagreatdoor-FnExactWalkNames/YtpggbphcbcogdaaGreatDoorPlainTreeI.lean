import Derived.Test.YtpggbphcbcogdaaGreatDoorPlainTree
import Derived.Below
import Derived.Deep.RegionHeld3
import Derived.Test.YtpggbphcbcogdaaGreatDoorProg
import Derived.WalkSpells
import Derived.Lib.OthersKept
import Derived.Laws.RangeAny
import Derived.Deep.Draws
import Derived.Deep.QuietTactic
import Derived.BigQuiet
namespace Go.Proofs.YtpggbphcbcogdaaGreatDoor
namespace Pl
theorem find_path {L:List Nd} {p:ByteArray} {m:Nd} (h:L.find? (fun m=>decide (m.path=p))=some m):m.path=p:=by
 have :=List.find?_some h
 simpa using this
theorem goS_iff (L:List Nd):∀ (r:List Nd) (prev:Option ByteArray),goS L prev r=true↔(∀n∈r,zb3 n=true∧dirS L (parent n.path)=true)∧r.Pairwise (fun a b=>za8 (names a.path) (names b.path)=true)∧∀n∈r,prevB prev n.path=true:=by
 intro r
 induction r with
 |nil=>intro prev;simp [goS]
 |cons m r ih=>
  intro prev;simp only [goS,Bool.and_eq_true];rw [ih]
  constructor
  ·rintro ⟨⟨⟨h1,h2⟩,h3⟩,h4,h5,h6⟩;refine ⟨fun n hn=>?_,List.Pairwise.cons (fun n hn=>h6 n hn) h5,fun n hn=>?_⟩
   ·rcases List.mem_cons.1 hn with rfl |hn
    ·exact ⟨h1,h3⟩
    ·exact h4 n hn
   ·rcases List.mem_cons.1 hn with rfl |hn
    ·exact h2
    ·cases prev with
     |none=>rfl
     |some q=>exact zk0 _ _ _ h2 (h6 n hn)
  ·rintro ⟨h1,h2,h3⟩;obtain ⟨h4,h5⟩:=List.pairwise_cons.1 h2;exact ⟨⟨⟨(h1 m (List.mem_cons_self ..)).1,h3 m (List.mem_cons_self ..)⟩,(h1 m (List.mem_cons_self ..)).2⟩,fun n hn=>h1 n (List.mem_cons_of_mem _ hn),h5,fun n hn=>h4 n hn⟩
theorem zk7 (L:List Nd):zb9 L=true↔L.length≤40∧(∀n∈L,zb3 n=true∧dirS L (parent n.path)=true)∧L.Pairwise (fun a b=>za8 (names a.path) (names b.path)=true):=by
 rw [zb9,←tree_same,Bool.and_eq_true,decide_eq_true_eq,goS_iff]
 constructor
 ·rintro ⟨h1,h2,h3, -⟩;exact ⟨h1,h2,h3⟩
 ·rintro ⟨h1,h2,h3⟩;exact ⟨h1,h2,h3,fun n hn=>rfl⟩
theorem dirS_iff {L:List Nd} (h:L.Pairwise (fun a b=>za8 (names a.path) (names b.path)=true)) (p:ByteArray):dirS L p=true↔p.size=0∨∃m∈L,m.path=p∧m.kind=1:=by
 simp only [dirS,Bool.or_eq_true,decide_eq_true_eq];refine or_congr Iff.rfl ?_;cases hf:L.find? (fun m=>decide (m.path=p)) with
 |none=>
  rw [List.find?_eq_none] at hf
  constructor
  ·intro h;cases h
  ·rintro ⟨m,hm,e,_⟩;exact absurd (decide_eq_true e) (hf m hm)
 |some m'=>
  have h1:=List.mem_of_find?_eq_some hf;have h2:=find_path hf;simp only [decide_eq_true_eq]
  constructor
  ·intro h3;exact ⟨m',h1,h2,h3⟩
  ·rintro ⟨m,hm,e,hk⟩;rw [one_path h h1 hm (h2.trans e.symm)];exact hk
end Pl
end Go.Proofs.YtpggbphcbcogdaaGreatDoor
