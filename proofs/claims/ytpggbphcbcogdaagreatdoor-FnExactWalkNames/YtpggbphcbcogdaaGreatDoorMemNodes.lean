import Derived.Test.YtpggbphcbcogdaaGreatDoorPlainNode
import Derived.Below
namespace Go.Proofs.YtpggbphcbcogdaaGreatDoor
open Go.RowKit
namespace Mem
def zb5 (w:World) (a:Option Addr) (L:List Pl.Nd):Prop:=
 ∀ (i:Nat) n,L[i]? =some n→∃b o,a=some ⟨b,o,none⟩∧b<w.heap.size∧
  w.cell? ⟨b,o+i*5,none⟩=some (.string n.path)∧w.cell? ⟨b,o+i*5+1,none⟩=some (.int .i64 n.kind)∧w.cell? ⟨b,o+i*5+2,none⟩=some (.string n.data)∧
  w.cell? ⟨b,o+i*5+3,none⟩=some (.int .i64 n.time)∧w.cell? ⟨b,o+i*5+4,none⟩=some (.int .i64 n.mark)
theorem za9 {w w':World} {a:Option Addr} {L:List Pl.Nd} (h:zb5 w a L) (b:Below w.heap.size w w'):zb5 w' a L:=fun i n hi=>by
 obtain ⟨g,o,h1,h2,h3,h4,h5,h6,h7⟩:=h i n hi;exact ⟨g,o,h1,Nat.lt_of_lt_of_le h2 b.size,(b.cell (p:=⟨g,_,none⟩) h2).trans h3,(b.cell (p:=⟨g,_,none⟩) h2).trans h4,(b.cell (p:=⟨g,_,none⟩) h2).trans h5,(b.cell (p:=⟨g,_,none⟩) h2).trans h6,(b.cell (p:=⟨g,_,none⟩) h2).trans h7⟩
theorem zm1 (b o j:Nat):(⟨b,o,none⟩:Addr).add j=⟨b,o+j,none⟩:=by unfold Addr.add;split <;> simp_all
theorem nodes_nil (w:World) (a:Option Addr):zb5 w a []:=fun i n hi=>by simp at hi
end Mem
end Go.Proofs.YtpggbphcbcogdaaGreatDoor
