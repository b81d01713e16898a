import Derived.Test.YtgdjjncmocppeaaGreatDoorG07
namespace Go.Proofs.YtgdjjncmocppeaaGreatDoor
open Go.RowKit
namespace WVfs
def vo (u:Pl.Sp) (d:Int) (p:ByteArray) (c:Int):Array Value:=#[.slice u.ia u.N.length u.ic, .slice u.ma u.M.length u.mc, .slice u.ha u.H.length u.hc, .int .i64 u.next, .string p, .slice none 0 0, .int .i64 0, .int .i64 d, .int .i64 c]
def vill (c:Int):Value:= .agg #[.slice none 0 0, .slice none 0 0, .slice none 0 0, .int .i64 0, .string ⟨#[]⟩, .slice none 0 0, .int .i64 0, .int .i64 0, .int .i64 c]
def vcs (A:Pl.Ao):Value:= .agg #[.slice none 0 0, .slice none 0 0, .slice none 0 0, .int .i64 0, .string A.p, .slice none 0 0, .int .i64 0, .int .i64 A.d, .int .i64 A.c]
theorem vcs_vo (A:Pl.Ao):vcs A= .agg (vo ⟨none,0,[],none,0,[],none,0,[],0⟩ A.d A.p A.c):=rfl
end WVfs
end Go.Proofs.YtgdjjncmocppeaaGreatDoor
