import Derived.Test.YtpggbphcbcogdaaGreatDoorPlainGlue
import Derived.WalkKit
import Derived.Laws.IdiomStrings
namespace Go.Proofs.YtpggbphcbcogdaaGreatDoor
namespace Pl
def zb0 (s:ByteArray):List ByteArray:=if za2 s then names s else []
theorem zp9 {s:ByteArray} (h:za2 s=false):zb0 s=[]:=by rw [zb0,h];rfl
theorem zc0 {s:ByteArray} (h:za2 s=true):zb0 s=names s:=by rw [zb0,h];rfl
theorem cut_pos (s:ByteArray):0<(cut s 47).length:=by
 have h:=cut_list s;have :(cut s 47).length=(cutL (by_ s)).length:=by rw [←h,List.length_map]
 rw [this];exact List.length_pos_iff.2 (cutL_ne _)
theorem zi {s:ByteArray} (h:s.size=0):za2 s=true∧names s=[]:=by
 have h1:names s=[]:=if_pos h;exact ⟨by simp [zr0,h1],h1⟩
theorem cut_length (s:ByteArray):(cut s 47).length≤s.size+1:=zw2 s 47 s.size 0 0
theorem cut_size {s:ByteArray} {k:Nat} {t:ByteArray} (h:(cut s 47)[k]? =some t):t.size≤s.size:=cutF_size s 47 _ _ _ t (List.mem_of_getElem? h)
theorem ze2 (s:ByteArray):(∀t∈zb0 s,zb4 t=true)∧(zb0 s).length≤6:=by
 cases h:za2 s
 ·rw [zp9 h];simp
 ·rw [zc0 h];exact zk9 h
theorem zm {L:List ByteArray} (h:∀t∈L,zb4 t=true) (h6:L.length≤20):(glue L).size≤1000000:=by
 have :=zp8 L (fun t ht=>(zj4 (h t ht)).2.2.2);omega
theorem zn1 {L:List ByteArray} (h:∀t∈L,zb4 t=true) (k:Nat):∀t∈L.take k,zb4 t=true:=fun t ht=>h t (List.mem_of_mem_take ht)
theorem all_drop {L:List ByteArray} (h:∀t∈L,zb4 t=true) (k:Nat):∀t∈L.drop k,zb4 t=true:=fun t ht=>h t (List.mem_of_mem_drop ht)
theorem zp5 {a b:ByteArray} (h:a=b):(a.toList==b.toList)=true:=by rw [h];exact beq_self_eq_true _
theorem zm2 {a b:ByteArray} (h:a≠b):(a.toList==b.toList)=false:=by
 rw [beq_eq_false_iff_ne,ByteArray.toList_eq,ByteArray.toList_eq];exact fun e=>h (zh7 e)
def tOut (x:ByteArray × Int):Value:= .agg #[.string x.1, .int .i64 0, .int .i64 x.2]
def zc6 (p n:ByteArray):ByteArray × Int:=
 if 8000<p.size∨8000<n.size then (⟨#[]⟩,2) else if ¬ (za2 p=true∧zb4 n=true) then (⟨#[]⟩,1) else if (zb0 p).length=6 then (⟨#[]⟩,9) else (glue (zb0 p++[n]),0)
theorem zd7 {t:ByteArray}:t.toList.isEmpty=decide (by_ t=[]):=by
 rw [ByteArray.toList_eq];change (by_ t).isEmpty=_;cases by_ t <;> simp
end Pl
end Go.Proofs.YtpggbphcbcogdaaGreatDoor
