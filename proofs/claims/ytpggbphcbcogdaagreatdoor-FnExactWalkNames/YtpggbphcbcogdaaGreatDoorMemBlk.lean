import Derived.Test.YtpggbphcbcogdaaGreatDoorPlainNode
import Derived.Test.YtpggbphcbcogdaaGreatDoorMem
import Derived.Laws.AppendOwn
namespace Go.Proofs.YtpggbphcbcogdaaGreatDoor
open Go.RowKit
namespace Mem
def Blk (w:World) (X:Nat) (cs:Array Value) (T:TypeId):Prop:=w.heap[X]? =some (.cells cs T (0,0))
theorem Blk.lt {w:World} {X:Nat} {cs:Array Value} {T:TypeId} (h:Blk w X cs T):X<w.heap.size:=(Array.getElem?_eq_some_iff.1 h).1
theorem Blk.cell {w:World} {X:Nat} {cs:Array Value} {T:TypeId} (h:Blk w X cs T) (k:Nat):w.cell? ⟨X,k,none⟩=cs[k]?:=cell_of_row w X k cs T (0,0) h
theorem Blk.fr {w:World} {X:Nat} {cs:Array Value} {T:TypeId} (h:Blk w X cs T) (k:Nat):w.frozen? ⟨X,k,none⟩=false:=zd5 h
theorem Blk.call {w w':World} {X:Nat} {cs:Array Value} {T:TypeId} (h:Blk w X cs T) (b:Below w.heap.size w w'):Blk w' X cs T:=(b.block _ h.lt).trans h
theorem Blk.below {w w':World} {X B:Nat} {cs:Array Value} {T:TypeId} (h:Blk w X cs T) (b:Below B w w') (hX:X<B):Blk w' X cs T:=(b.block _ hX).trans h
theorem Blk.alloc {w:World} {X:Nat} {cs:Array Value} {T:TypeId} (h:Blk w X cs T) (o:Obj):Blk (w.alloc o) X cs T:=h.call ((Below.refl _ _).alloc (Nat.le_refl _) o)
theorem Blk.new (w:World) (cs:Array Value) (T:TypeId):Blk (w.alloc (.cells cs T)) w.heap.size cs T:=heap_alloc_new w _
theorem Blk.grown {w w':World} {X:Nat} {cs:Array Value} {T:TypeId} {r:Option Nat} (h:Blk w X cs T) (g:w.grownBy w' r) (hr:some X≠r):Blk w' X cs T:=(g.block _ h.lt hr).trans h
theorem Blk.put {w:World} {X:Nat} {cs:Array Value} {T:TypeId} (h:Blk w X cs T) (k:Nat) (v:Value):Blk (w.setCell ⟨X,k,none⟩ v) X (cs.setIfInBounds k v) T:=heap_setCell_same w X k cs T v h
theorem Blk.far {w:World} {X:Nat} {cs:Array Value} {T:TypeId} (h:Blk w X cs T) (a:Addr) (v:Value) (ha:X≠a.block):Blk (w.setCell a v) X cs T:=(heap_setCell_other w a X v ha).trans h
theorem za4 {w w':World} (b:Below w.heap.size w w') (r:Option Nat):w.grownBy w' r:=⟨b.os,b.tape,b.output,b.size,fun j hj _=>b.block j hj⟩
theorem grown_trans {w v v':World} {r:Option Nat} (h:w.grownBy v r) (h':v.grownBy v' r):w.grownBy v' r:=
 ⟨h'.os.trans h.os,h'.tape.trans h.tape,h'.output.trans h.output,Nat.le_trans h.size h'.size,fun j hj hne=>(h'.block j (Nat.lt_of_lt_of_le hj h.size) hne).trans (h.block j hj hne)⟩
end Mem
end Go.Proofs.YtpggbphcbcogdaaGreatDoor
