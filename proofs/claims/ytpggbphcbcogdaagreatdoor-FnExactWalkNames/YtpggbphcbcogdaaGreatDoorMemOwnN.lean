import Derived.Test.YtpggbphcbcogdaaGreatDoorPlainNode
import Derived.Test.YtpggbphcbcogdaaGreatDoorMem
import Derived.Test.YtpggbphcbcogdaaGreatDoorMemVars
import Derived.Laws.AppendOwn
namespace Go.Proofs.YtpggbphcbcogdaaGreatDoor
open Go.RowKit
namespace Pl
def Nd.cs (n:Nd):List Value:=[.string n.path, .int .i64 n.kind, .string n.data, .int .i64 n.time, .int .i64 n.mark]
def zg7 (L:List Nd):List Value:=L.flatMap Nd.cs
theorem cellsN_cons (n:Nd) (L:List Nd):zg7 (n::L)=n.cs++zg7 L:=by simp [zg7]
theorem cellsN_app (L M:List Nd):zg7 (L++M)=zg7 L++zg7 M:=by simp [zg7]
theorem zx1 (L:List Nd) (i:Nat) (n:Nd) (h:L[i]? =some n) (j:Nat) (hj:j<5):(zg7 L)[i*5+j]? =n.cs[j]?:=by
 induction L generalizing i with
 |nil=>simp at h
 |cons m L ih=>
  rw [cellsN_cons];have hl:m.cs.length=5:=rfl
  match i,h with
  |0,h=>
   simp at h;subst h
   rw [List.getElem?_append_left (by rw [hl];omega)];simp
  |i+1,h=>
   rw [List.getElem?_append_right (by rw [hl];omega),hl,show (i+1)*5+j - 5=i*5+j by omega];exact ih i (by simpa using h)
end Pl
namespace Mem
def ownN (w:World) (B:Nat) (v:Value) (L:List Pl.Nd):Prop:=w.ownsRow B 42 5 v L.length (Pl.zg7 L)
theorem cs_one (n:Pl.Nd):∀u∈n.cs,u.oneCell'=true:=by
 intro u hu;simp only [Pl.Nd.cs,List.mem_cons,List.not_mem_nil,or_false] at hu
 rcases hu with rfl |rfl |rfl |rfl |rfl <;> rfl
theorem cs_new (w:World) (n:Pl.Nd) (T:TypeId):∀j u,n.cs[j]? =some u→(w.alloc (.cells n.cs.toArray T)).cell? ((⟨w.heap.size,0,none⟩:Addr).add j)=some u:=by
 intro j u hj;rw [Mem.add_lit];exact (Mem.zg4 w n.cs T).2 j u hj
theorem ownN_snoc {w:World} {B:Nat} {v:Value} {L:List Pl.Nd} {n:Pl.Nd} (h:w.ownsRow B 42 5 v (L.length+1) (Pl.zg7 L++n.cs)):ownN w B v (L++[n]):=by
 unfold ownN;rw [Pl.cellsN_app,List.length_append];have e:Pl.zg7 [n]=n.cs:=by simp [Pl.zg7]
 rw [e];exact h
end Mem
end Go.Proofs.YtpggbphcbcogdaaGreatDoor
