import Derived.Test.YtgdjjncmocppeaaGreatDoorG02
import Derived.Test.YtgdjjncmocppeaaGreatDoorOkNode
import Derived.Test.YtgdjjncmocppeaaGreatDoorRows
import Derived.ProofKit
import Derived.OpenShut
import Derived.ShutString
import Derived.ChangeOld
namespace Go.Proofs.YtgdjjncmocppeaaGreatDoor
open Go.ChangeShapes Go.WideShapes Go.ChangeAt Go.RowKit
namespace zp2
theorem cells1:Tryz.prog.cellsOf 193=1:=by kernel_rfl
theorem cellsL:Tryz.prog.cellsOf 191=1:=by kernel_rfl
structure OkT (w:World) (a:Option Addr) (L:List Pl.Nd):Prop where
 len:L.length≤maxLen
 nodes:Mem.za9 w a L
 ok:∀n∈L,zk5.Ok n
theorem one {α:Type} {l:List α} (h:l.length=1):∃a,l=[a]:=by
 match l,h with
 | [a],_=>exact ⟨a,rfl⟩
theorem mapM5 {f:Nat→Option Value} {c0 c1 c2 c3 c4:Value} (h:(List.range 5).mapM f=some [c0,c1,c2,c3,c4]):f 0=some c0∧f 1=some c1∧f 2=some c2∧f 3=some c3∧f 4=some c4:=by
 have e:List.range 5=[0,1,2,3,4]:=rfl;rw [e] at h;simp only [List.mapM_cons,List.mapM_nil,Option.pure_def,Option.bind_eq_bind] at h;cases h0:f 0 with
 |none=>rw [h0] at h;simp at h
 |some a0=>
  cases h1:f 1 with
  |none=>rw [h0,h1] at h;simp at h
  |some a1=>
   cases h2:f 2 with
   |none=>rw [h0,h1,h2] at h;simp at h
   |some a2=>
    cases h3:f 3 with
    |none=>rw [h0,h1,h2,h3] at h;simp at h
    |some a3=>
     cases h4:f 4 with
     |none=>rw [h0,h1,h2,h3,h4] at h;simp at h
     |some a4=>
      rw [h0,h1,h2,h3,h4] at h;simp at h
      obtain ⟨rfl,rfl,rfl,rfl,rfl⟩:=h;exact ⟨rfl,rfl,rfl,rfl,rfl⟩
end zp2
end Go.Proofs.YtgdjjncmocppeaaGreatDoor
