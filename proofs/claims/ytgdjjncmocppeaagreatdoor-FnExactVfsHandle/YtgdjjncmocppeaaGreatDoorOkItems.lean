import Derived.Test.YtgdjjncmocppeaaGreatDoorG02
import Derived.Test.YtgdjjncmocppeaaGreatDoorOkNode
namespace Go.Proofs.YtgdjjncmocppeaaGreatDoor
open Go.RowKit
namespace zq1
structure OkI (w:World) (a:Option Addr) (Is:List Pl.It):Prop where
 len:Is.length≤maxLen
 items:Mem.zb2 w a Is
 ok:∀x∈Is,x.t.L.length≤maxLen∧∀n∈x.t.L,zk5.Ok n
end zq1
end Go.Proofs.YtgdjjncmocppeaaGreatDoor
