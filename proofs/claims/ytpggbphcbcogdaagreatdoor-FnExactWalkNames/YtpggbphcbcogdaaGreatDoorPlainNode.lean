import Derived.Test.YtpggbphcbcogdaaGreatDoorPlainPath
import Derived.WalkKit
import Derived.Laws.IdiomStrings
namespace Go.Proofs.YtpggbphcbcogdaaGreatDoor
namespace Pl
structure Nd where
 path:ByteArray
 kind:Int
 data:ByteArray
 time:Int
 mark:Int
def Nd.cells (n:Nd):List Value:=[.string n.path, .int .i64 n.kind, .string n.data, .int .i64 n.time, .int .i64 n.mark]
def Nd.val (n:Nd):Value:= .agg #[.string n.path, .int .i64 n.kind, .string n.data, .int .i64 n.time, .int .i64 n.mark]
def zg3 (n:Nd):Bool:=
 if n.kind=0 then decide (n.data.size=0)&&decide (n.time=0)&&decide (1≤n.mark)
 else if n.kind=1 then decide (n.data.size=0)
 else if n.kind=2 then decide (n.mark=0) else false
def zb3 (n:Nd):Bool:=decide (n.path.size≠0)&&za2 n.path&&decide (n.data.size≤60)&&decide (0≤n.time∧n.time≤1000000)&&decide (0≤n.mark∧n.mark≤8)&&zg3 n
theorem zu0 {n:Nd} (h:n.path.size=0):zb3 n=false:=by simp [zb3,h]
theorem node_path {n:Nd} (h:za2 n.path=false):zb3 n=false:=by simp [zb3,h]
theorem node_data {n:Nd} (h:60<n.data.size):zb3 n=false:=by
 have :decide (n.data.size≤60)=false:=by simp;omega
 simp [zb3,this]
theorem node_time {n:Nd} (h:¬ (0≤n.time∧n.time≤1000000)):zb3 n=false:=by
 have :decide (0≤n.time∧n.time≤1000000)=false:=by simpa using h
 unfold zb3;rw [this];simp
theorem node_mark {n:Nd} (h:¬ (0≤n.mark∧n.mark≤8)):zb3 n=false:=by
 have :decide (0≤n.mark∧n.mark≤8)=false:=by simpa using h
 unfold zb3;rw [this];simp
theorem node_kind {n:Nd} (h0:n.path.size≠0) (h1:za2 n.path=true) (h2:n.data.size≤60) (h3:0≤n.time∧n.time≤1000000) (h4:0≤n.mark∧n.mark≤8):zb3 n=zg3 n:=by
 have e3:decide (0≤n.time∧n.time≤1000000)=true:=by simpa using h3
 have e4:decide (0≤n.mark∧n.mark≤8)=true:=by simpa using h4
 unfold zb3;rw [e3,e4];simp [h0,h1,h2]
def zj9 (n:Nd):Bool:=decide (n.data.size≤60)&&decide (0≤n.time∧n.time≤1000000)&&decide (0≤n.mark∧n.mark≤8)&&zg3 n
theorem cont_data {n:Nd} (h:60<n.data.size):zj9 n=false:=by
 have :decide (n.data.size≤60)=false:=by simp;omega
 simp [zj9,this]
theorem cont_time {n:Nd} (h:¬ (0≤n.time∧n.time≤1000000)):zj9 n=false:=by
 have :decide (0≤n.time∧n.time≤1000000)=false:=by simpa using h
 unfold zj9;rw [this];simp
theorem cont_mark {n:Nd} (h:¬ (0≤n.mark∧n.mark≤8)):zj9 n=false:=by
 have :decide (0≤n.mark∧n.mark≤8)=false:=by simpa using h
 unfold zj9;rw [this];simp
theorem cont_kind {n:Nd} (h2:n.data.size≤60) (h3:0≤n.time∧n.time≤1000000) (h4:0≤n.mark∧n.mark≤8):zj9 n=zg3 n:=by
 have e3:decide (0≤n.time∧n.time≤1000000)=true:=by simpa using h3
 have e4:decide (0≤n.mark∧n.mark≤8)=true:=by simpa using h4
 unfold zj9;rw [e3,e4];simp [h2]
theorem node_cont {n:Nd} (h0:n.path.size≠0) (h1:za2 n.path=true):zb3 n=zj9 n:=by
 unfold zb3 zj9;simp [h0,h1,Bool.and_assoc]
end Pl
end Go.Proofs.YtpggbphcbcogdaaGreatDoor
