import Derived.Test.YtpggbphcbcogdaaGreatDoorPlain
import Derived.WalkKit
import Derived.Below
namespace Go.Proofs.YtpggbphcbcogdaaGreatDoor
open Go.RowKit
namespace Pl
def zi5 (a b:ByteArray):Bool:=Op.bytesLess a.toList b.toList
def insN (t:ByteArray):List ByteArray→List ByteArray
 | []=>[t]
 |a::l=>if zi5 a t=true then a::insN t l else if a=t then a::l else t::a::l
theorem ins_at (t:ByteArray):∀ (l:List ByteArray) (k:Nat),(∀ (j:Nat) x,j<k→l[j]? =some x→zi5 x t=true)→(∀x,l[k]? =some x→zi5 x t=false)→k≤l.length→insN t l=if l[k]? =some t then l else l.take k++[t]++l.drop k:=by
 intro l
 induction l with
 |nil=>
  intro k _ _ hk;have :k=0:=by simpa using hk
  subst this;simp [insN]
 |cons a l ih=>
  intro k h1 h2 hk;cases k with
  |zero=>
   have h3:=h2 a rfl;rw [insN,if_neg (by rw [h3];simp)];by_cases e:a=t
   ·simp [e]
   ·simp [e]
  |succ k=>
   have h3:=h1 0 a (by omega) rfl;rw [insN,if_pos h3,ih k (fun j x hj hx=>h1 (j+1) x (by omega) (by simpa using hx)) (fun x hx=>h2 x (by simpa using hx)) (by simpa using hk)];simp only [List.getElem?_cons_succ,List.take_succ_cons,List.drop_succ_cons,List.cons_append]
   split <;> rfl
theorem ins_len (t:ByteArray) (l:List ByteArray):(insN t l).length≤l.length+1:=by
 induction l with
 |nil=>simp [insN]
 |cons a l ih=>
  rw [insN]
  split
  ·simp;omega
  ·split <;> simp
end Pl
end Go.Proofs.YtpggbphcbcogdaaGreatDoor
