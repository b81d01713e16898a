import Derived.Test.YtpggbphcbcogdaaGreatDoorMemNodes
import Derived.Test.YtpggbphcbcogdaaGreatDoorMemTrees
namespace Go.Proofs.YtpggbphcbcogdaaGreatDoor
open Go.RowKit
namespace Pl
structure It where
 m:Int
 t:Tr
def It.r (x:It):Int × List Nd:=(x.m,x.t.L)
end Pl
namespace Mem
def zb8 (w:World) (a:Option Addr) (Is:List Pl.It):Prop:=
 ∀ (i:Nat) x,Is[i]? =some x→(∃b o,a=some ⟨b,o,none⟩∧b<w.heap.size∧w.cell? ⟨b,o+i*2,none⟩=some (.int .i64 x.m)∧w.cell? ⟨b,o+i*2+1,none⟩=some x.t.val)∧zb5 w x.t.a x.t.L
theorem zd4 {w w':World} {a:Option Addr} {Is:List Pl.It} (h:zb8 w a Is) (b:Below w.heap.size w w'):zb8 w' a Is:=fun i t hi=>by
 obtain ⟨⟨g,o,h1,h2,h3,h5⟩,h4⟩:=h i t hi;exact ⟨⟨g,o,h1,Nat.lt_of_lt_of_le h2 b.size,(b.cell (p:=⟨g,_,none⟩) h2).trans h3,(b.cell (p:=⟨g,_,none⟩) h2).trans h5⟩,za9 h4 b⟩
theorem items_nil (w:World) (a:Option Addr):zb8 w a []:=fun i n hi=>by simp at hi
theorem items_drop {w:World} {b o:Nat} {Is:List Pl.It} (k:Nat) (h:zb8 w (some ⟨b,o,none⟩) Is):zb8 w (some ⟨b,o+k*2,none⟩) (Is.drop k):=fun i t hi=>by
 rw [List.getElem?_drop] at hi;obtain ⟨⟨g,o',h1,h2,h3,h5⟩,h4⟩:=h _ t hi;cases h1
 refine ⟨⟨b,_,rfl,h2,?_,?_⟩,h4⟩
 ·rw [show o+k*2+i*2=o+(k+i)*2 by omega];exact h3
 ·rw [show o+k*2+i*2+1=o+(k+i)*2+1 by omega];exact h5
def shifted (a a':Option Addr) (k:Nat) (Is:List Pl.It):Prop:=Is.drop k=[]∨∃b o,a=some ⟨b,o,none⟩∧a'=some ⟨b,o+k*2,none⟩
theorem items_shift {w:World} {a a':Option Addr} {k:Nat} {Is:List Pl.It} (h:zb8 w a Is) (hs:shifted a a' k Is):zb8 w a' (Is.drop k):=by
 rcases hs with hs|⟨b,o,rfl,rfl⟩
 ·rw [hs];exact items_nil _ _
 ·exact items_drop k h
theorem shifted_trans {a a' a'':Option Addr} {k j:Nat} {Is:List Pl.It} (h:shifted a a' k Is) (h':shifted a' a'' j (Is.drop k)):shifted a a'' (k+j) Is:=by
 rcases h' with h'|⟨b,o,e1,e2⟩
 ·rw [List.drop_drop] at h';exact .inl h'
 ·rcases h with h|⟨b1,o1,e3,e4⟩
  ·left;rw [←List.drop_drop,h,List.drop_nil]
  ·rw [e4] at e1;cases e1
   exact .inr ⟨_,o1,e3,by rw [e2];congr 2;omega⟩
end Mem
end Go.Proofs.YtpggbphcbcogdaaGreatDoor
