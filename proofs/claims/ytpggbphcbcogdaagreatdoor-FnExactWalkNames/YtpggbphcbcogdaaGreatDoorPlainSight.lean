import Derived.Test.YtpggbphcbcogdaaGreatDoorPlainNode
namespace Go.Proofs.YtpggbphcbcogdaaGreatDoor
open Go.RowKit
namespace Pl
structure Sg where
 told:Bool
 node:Nd
 have':List Bool
def Sg.cs (s:Sg):List Value:=[.bool s.told, .string s.node.path, .int .i64 s.node.kind, .string s.node.data, .int .i64 s.node.time, .int .i64 s.node.mark]++s.have'.map .bool
def za3:Nd:=⟨⟨#[]⟩,0,⟨#[]⟩,0,0⟩
def Sg.zero:Sg:=⟨false,za3,[false,false,false,false]⟩
def zf8 (n:Nd) (m:Int):Nd:=⟨n.path,n.kind,n.data,n.time,max n.mark m⟩
def zc2 (s:Sg) (k:Nat) (n:Nd):Sg:=⟨true,zf8 (if s.told then s.node else n) n.mark,s.have'.set k (decide (n.kind=1))⟩
def ze6 (n:Nd):Bool:= !decide (n.kind=1)||decide (0<n.mark)
def upS (s:Sg):Sg:=
 if s.node.kind=0∧max (s.node.mark - 1) 0=0 then Sg.zero else ⟨s.told,⟨s.node.path,s.node.kind,s.node.data,s.node.time,max (s.node.mark - 1) 0⟩,s.have'⟩
def goD:Nat→Sg→List (Option Nd)→Sg
 |_,s,[]=>s
 |k,s,none::r=>goD (k+1) s r
 |k,s,some n::r=>if ze6 n then zc2 s k n else goD (k+1) (zc2 s k n) r
def decS (ns:List (Option Nd)):Sg:=upS (goD 0 Sg.zero ns)
def lk (L:List Nd) (p:ByteArray):Option Nd:=L.find? (fun m=>decide (m.path=p))
theorem go_step {ns:List (Option Nd)} {k:Nat} {x:Option Nd} (h:ns[k]? =some x) (j:Nat) (s:Sg):goD j s (ns.drop k)=match x with |none=>goD (j+1) s (ns.drop (k+1))|some n=>if ze6 n then zc2 s j n else goD (j+1) (zc2 s j n) (ns.drop (k+1)):=by
 have h1:=List.getElem?_eq_some_iff.1 h;rw [List.drop_eq_getElem_cons h1.1,h1.2];cases x <;> rfl
theorem go_end {ns:List (Option Nd)} {k:Nat} (h:ns.length≤k) (j:Nat) (s:Sg):goD j s (ns.drop k)=s:=by
 rw [List.drop_eq_nil_of_le h];rfl
theorem take_len (s:Sg) (k:Nat) (n:Nd):(zc2 s k n).have'.length=s.have'.length:=by simp [zc2]
theorem take_mark {s:Sg} {k:Nat} {n:Nd} (h:0≤s.node.mark∧s.node.mark≤8) (hn:0≤n.mark∧n.mark≤8):0≤(zc2 s k n).node.mark∧(zc2 s k n).node.mark≤8:=by
 unfold zc2 zf8;cases s.told <;> simp <;> omega
theorem up_len {s:Sg} (h:s.have'.length=4):(upS s).have'.length=4:=by
 unfold upS
 split
 ·rfl
 ·exact h
end Pl
end Go.Proofs.YtpggbphcbcogdaaGreatDoor
