import Derived.Test.YtgdjjncmocppeaaGreatDoorG00
import Derived.Below
namespace Go.Proofs.YtgdjjncmocppeaaGreatDoor
open Go.RowKit
namespace zk5
def Ok (n:Pl.Nd):Prop:=n.path.size≤maxLen∧n.data.size≤maxLen∧(-9223372036854775808≤n.kind∧n.kind≤9223372036854775807)∧(-9223372036854775808≤n.time∧n.time≤9223372036854775807)∧(-9223372036854775808≤n.mark∧n.mark≤9223372036854775807)
end zk5
end Go.Proofs.YtgdjjncmocppeaaGreatDoor
