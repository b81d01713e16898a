import Derived.Test.YtpggbphcbcogdaaGreatDoorMemBlk
import Derived.Test.YtpggbphcbcogdaaGreatDoorWMarks
namespace Go.Proofs.YtpggbphcbcogdaaGreatDoor
open Go.RowKit
namespace zf0
set_option maxRecDepth 100000 in
theorem layNil (K:Nat) (w:World):Calls Tryz.prog 11 #[.slice none 0 0, .int .i64 (K:Int)] w fun e w'=>e= .returned (.int .i64 (K:Int))∧Below w.heap.size w w':=by
 go_enter Tryz.func11,Tryz.ntmps11
 go_wp2
 refine wp_loop_rounds 1 ?_;rw [rounds_succ];go_wp2
 go_ret
 exact ⟨rfl,Below.refl _ _⟩
theorem lay_own (v:Value) (n B:Nat) (xs:List Value) (w:World) (hn:n≤1000) (h:w.ownsRow B 9 1 v n xs):
  Calls Tryz.prog 11 #[v, .int .i64 ((1:Nat):Int)] w fun e w'=>e= .returned (.int .i64 ((1+n:Nat):Int))∧Mem.ze5 w' v (Pl.marks 1 n)∧w.grownBy w' v.ownBlock:=by
 rcases h.2 with ⟨rfl,h0⟩|⟨g,cap,cur,rfl,_⟩
 ·subst h0;refine (layNil 1 w).mono fun e w' ⟨he,b⟩=>⟨he,?_,Mem.za4 b _⟩;exact .inl ⟨rfl,rfl⟩
 ·exact (zo3.lay_any B g n cap 1 xs w hn (by omega) (by omega) h).mono fun e w' ⟨he,ho,hg⟩=>⟨he,Mem.own_textsN ho (Pl.zh5 1 n),hg⟩
def Own (w:World) (B:Nat) (v:Value) (K:List ByteArray):Prop:=w.ownsRow B 9 1 v K.length (K.map Value.string)
theorem Own.call {w w':World} {B:Nat} {v:Value} {K:List ByteArray} (h:Own w B v K) (b:Below w.heap.size w w'):Own w' B v K:=Mem.zc8 h b
theorem Own.lt {w:World} {B:Nat} {v:Value} {K:List ByteArray} (h:Own w B v K):∀g,v.ownBlock=some g→B≤g∧g<w.heap.size:=fun g hg=>World.ownsRow.lt h g hg
theorem Own.grown {w w':World} {B:Nat} {v:Value} {K:List ByteArray} {r:Option Nat} (h:Own w B v K) (hg:w.grownBy w' r) (hr:∀g,v.ownBlock=some g→some g≠r):Own w' B v K:=by
 refine ⟨h.1,?_⟩
 rcases h.2 with h0|⟨g,cap,cur,rfl,hb,hh,rest⟩
 ·exact .inl h0
 ·exact .inr ⟨g,cap,cur,rfl,hb,(hg.block g (Array.getElem?_eq_some_iff.1 hh).1 (hr g rfl)).trans hh,rest⟩
theorem Own.texts {w:World} {B:Nat} {v:Value} {K:List ByteArray} (h:Own w B v K):Mem.ze5 w v K:=Mem.ze4 h
end zf0
end Go.Proofs.YtpggbphcbcogdaaGreatDoor
