/- Several texts of one claim in one file: MemLess, WSpI18, WSpI19. -/
import Derived.Test.YtonffldjbmednaaGreatDoorG15
import Derived.Maps.Ext
import Derived.Maps.Keyed
import Derived.ChangeMaps
import Derived.Test.YtonffldjbmednaaGreatDoorG06
import Derived.Deep.RegionHeld3
import Derived.Test.YtonffldjbmednaaGreatDoorProg
import Derived.Maps.OwnSet
import Derived.Maps.RangeWalk
import Derived.Laws.AppendOwn
import Derived.Laws.AppendOwnNone
import Derived.Deep.Draws
import Derived.Laws.CopyRow
import Derived.Outline
import Derived.Deep.QuietTactic
import Derived.BigQuiet
import Derived.Test.YtonffldjbmednaaGreatDoorPlainClose
import Derived.WalkSpells
import Derived.Lib.OthersKept
import Derived.Laws.RangeAny
import Derived.Deep.Cut
import Derived.Shelf.SlIterI.Nil
import Derived.Shelf.SortM.Plain
import Derived.Shelf.SortM.SortNone
import Derived.Calls
import Derived.Lone
import Derived.RunT
import Derived.Shelf.SlSortCmp.NoneTotal
import Derived.Lib.QuietBelow
import Derived.Sort.MapsRangeIn
import Derived.Laws.IdiomRangeMap
import Derived.Deep.Upon
namespace Go.Proofs.YtonffldjbmednaaGreatDoor
section
open Go.RowKit Go.Maps
namespace Mem
structure Out (lo hi X:Nat) (w w':World):Prop where
 os:w'.os=w.os
 tape:w'.tape=w.tape
 output:w'.output=w.output
 size:w.heap.size≤w'.heap.size
 block:∀b,b<w.heap.size→b≠X→b<lo∨hi≤b→w'.heap[b]? =w.heap[b]?
theorem Out.below {lo hi X:Nat} {w w':World} (h:Out lo hi X w w') (hX:lo≤X) (hw:lo≤w.heap.size):Below lo w w':=⟨h.os,h.tape,h.output,h.size,fun b hb=>h.block b (by omega) (by omega) (.inl hb)⟩
theorem Out.blk {lo hi X:Nat} {w w':World} (h:Out lo hi X w w') {Y:Nat} {cs:Array Value} {T:TypeId} (b:Blk w Y cs T) (hY:Y≠X) (hl:Y<lo∨hi≤Y):Blk w' Y cs T:=(h.block Y b.lt hY hl).trans b
theorem own3_base {α:Type} {T:TypeId} {cs:α→List Value} {w:World} {B S:Nat} {v:Value} {L:List α} (h:own3 T cs w B v L) (hS:∀g,v.ownBlock=some g→S≤g):own3 T cs w S v L:=by
 refine ⟨h.1,?_⟩
 rcases h.2 with h0|⟨g,cap,cur,rfl,hb,rest⟩
 ·exact .inl h0
 ·exact .inr ⟨g,cap,cur,rfl,hS g rfl,rest⟩
theorem ze0.filter {w:World} {B:Nat} (f:Int→Bool):∀ (E:List (Int × Pl.Nv)) (N:List Pl.Ns),ze0 w B E N→E.map (·.1)=N.map (·.d)→ze0 w B (E.filter (fun x=>f x.1)) (N.filter (fun x=>f x.d)):=by
 intro E
 induction E with
 |nil=>intro N h e i y hy;simp at hy
 |cons a E ih=>
  intro N h e;cases N with
  |nil=>simp at e
  |cons b N=>
   rw [List.map_cons,List.map_cons,List.cons.injEq] at e;have h2:ze0 w B E N:=fun i y hy=>h (i+1) y (by simpa using hy);have h3:=ih N h2 e.2;rw [List.filter_cons,List.filter_cons,←e.1];cases f a.1 with
   |false=>exact h3
   |true=>
    intro i y hy;cases i with
    |zero=>exact h 0 y (by simpa using hy)
    |succ i=>exact h3 i y (by simpa using hy)
theorem filt_pair (f:Int→Bool):∀ (E:List (Int × Pl.Nv)) (N:List Pl.Ns),E.map (·.1)=N.map (·.d)→(E.filter (fun x=>f x.1)).map (·.1)=(N.filter (fun x=>f x.d)).map (·.d):=by
 intro E
 induction E with
 |nil=>intro N e;cases N with |nil=>rfl |cons b N=>simp at e
 |cons a E ih=>
  intro N e;cases N with
  |nil=>simp at e
  |cons b N=>
   rw [List.map_cons,List.map_cons,List.cons.injEq] at e;have h3:=ih N e.2;rw [List.filter_cons,List.filter_cons,←e.1];cases f a.1 with
   |false=>exact h3
   |true=>simp only [if_true,List.map_cons,h3,e.1]
end Mem
namespace SpO
theorem SpV.less {B:Nat} {V W':World} {s:Pl.Sp} {q:Nat} {E:List (Int × Pl.Nv)} {ma:Option Addr} {mc:Nat} {ha:Option Addr} {hc:Nat} (h:SpV B V s q E ma mc ha hc) (f:Int→Bool) {M':List Pl.Mn} {H':List Pl.Hn} {ma' ha':Option Addr} {mc' hc' B1 B2:Nat}
  (hs:V.heap.size≤W'.heap.size) (gb:∀b,b<V.heap.size→b≠q→(Value.slice ma s.M.length mc).ownBlock≠some b→(Value.slice ha s.H.length hc).ownBlock≠some b→W'.heap[b]? =V.heap[b]?)
  (oM:Mem.own3 50 Pl.Mn.cs W' B1 (.slice ma' M'.length mc') M') (bM:∀g,(Value.slice ma' M'.length mc').ownBlock=some g→(Value.slice ma s.M.length mc).ownBlock=some g)
  (oH:Mem.own3 87 Pl.Hn.cs W' B2 (.slice ha' H'.length hc') H') (bH:∀g,(Value.slice ha' H'.length hc').ownBlock=some g→(Value.slice ha s.H.length hc).ownBlock=some g)
  (mo:W'.ownsMap Tryz.prog 2 MapI.elem q 12 (MapI.mapOf (Pl.vals (E.filter (fun x=>f x.1))))) (u:Pl.Sp) (uN:u.N=s.N.filter (fun x=>f x.d)) (uM:u.M=M') (uH:u.H=H'):
  SpV B W' u q (E.filter (fun x=>f x.1)) ma' mc' ha' hc':=by
 subst uM;subst uH;obtain ⟨h1,h2,h3,⟨W1,h4,h5,h6,h7,h8,h9⟩,h10⟩:=h;refine ⟨h1,by rw [uN];exact Mem.filt_pair f E s.N h2,mo,⟨W1,by rw [uN];exact Mem.ze0.filter f E s.N h4 h2,Nat.le_trans h5 hs,h6,fun b hb hl=>?_,Mem.own3_base oM (fun g hg=>(Mem.za5 h8 g (bM g hg)).1),Mem.own3_base oH (fun g hg=>(Mem.za5 h9 g (bH g hg)).1)⟩,fun g hg hg2=>h10 g (bM g hg) (bH g hg2)⟩;refine (gb b (by omega) (by omega) (fun e=>?_) (fun e=>?_)).trans (h7 b hb hl)
 ·have :=(Mem.za5 h8 b e).1;omega
 ·have :=(Mem.za5 h9 b e).1;omega
theorem SpV.where' {B:Nat} {V:World} {s:Pl.Sp} {q:Nat} {E:List (Int × Pl.Nv)} {ma:Option Addr} {mc:Nat} {ha:Option Addr} {hc:Nat} (h:SpV B V s q E ma mc ha hc):
  (∀g,(Value.slice ma s.M.length mc).ownBlock=some g→B≤g∧g<V.heap.size∧g≠q)∧(∀g,(Value.slice ha s.H.length hc).ownBlock=some g→B≤g∧g<V.heap.size∧g≠q)∧Mem.own3 50 Pl.Mn.cs V B (.slice ma s.M.length mc) s.M∧Mem.own3 87 Pl.Hn.cs V B (.slice ha s.H.length hc) s.H:=by
 obtain ⟨h1,h2,h3,⟨W1,h4,h5,h6,h7,h8,h9⟩,h10⟩:=h;refine ⟨fun g hg=>?_,fun g hg=>?_,Mem.zg5 h8 (by omega),Mem.zg5 h9 (by omega)⟩
 ·have :=Mem.za5 h8 g hg;exact ⟨by omega,this.2,by omega⟩
 ·have :=Mem.za5 h9 g hg;exact ⟨by omega,this.2,by omega⟩
end SpO
end
section
set_option linter.unusedSimpArgs false
open Go.RowKit Go.Maps
namespace WSpI
def keepF (M:List Pl.Mn) (H:List Pl.Hn) (d:Int):Bool:= !decide (Pl.held M H d=0)
end WSpI
end
section
open Go.RowKit Go.Maps
namespace WSpI
theorem keep_map (N:List Pl.Ns) (M:List Pl.Mn) (H:List Pl.Hn):(N.filter (fun x=>keepF M H x.d)).map Pl.Ns.r=Pl.keepN (N.map Pl.Ns.r) M H:=by
 unfold Pl.keepN;rw [List.filter_map];rfl
end WSpI
end
end Go.Proofs.YtonffldjbmednaaGreatDoor
