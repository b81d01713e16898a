import Derived.Test.YtpggbphcbcogdaaGreatDoorPlain
import Derived.Below
import Derived.WalkKit
import Derived.Laws.IdiomStrings
import Derived.Deep.RegionHeld3
import Derived.Laws.AppendOwn
import Derived.Test.YtpggbphcbcogdaaGreatDoorProg
import Derived.WalkSpells
namespace Go.Proofs.YtpggbphcbcogdaaGreatDoor
open Go.RowKit
namespace zf3
theorem infoI:(Tryz.prog.info? 3).map (fun i=>(i.zero,i.size,i.bytes))=some (some (.int .i64 0),1,8):=by kernel_rfl
def intsV (ks:List Nat):List Value:=ks.map (fun k:Nat=>Value.int .i64 (k:Int))
def ownI (w:World) (B:Nat) (v:Value) (ks:List Nat):Prop:=w.ownsRow B 3 1 v ks.length (intsV ks)
theorem zo6 {w w':World} {B:Nat} {v:Value} {ks:List Nat} (h:ownI w B v ks) (b:Below w.heap.size w w'):ownI w' B v ks:=by
 refine ⟨h.1,?_⟩
 rcases h.2 with h0|⟨g,cap,cur,hv,hb,hg,rest⟩
 ·exact .inl h0
 ·exact .inr ⟨g,cap,cur,hv,hb,(b.block g (Array.getElem?_eq_some_iff.1 hg).1).trans hg,rest⟩
theorem zu9 {w:World} {B:Nat} {v:Value} {ks:List Nat} {k:Nat} (h:w.ownsRow B 3 1 v (ks.length+1) (intsV ks++[.int .i64 (k:Int)])):ownI w B v (ks++[k]):=by
 unfold ownI intsV;rw [List.map_append,List.length_append];exact h
end zf3
end Go.Proofs.YtpggbphcbcogdaaGreatDoor
