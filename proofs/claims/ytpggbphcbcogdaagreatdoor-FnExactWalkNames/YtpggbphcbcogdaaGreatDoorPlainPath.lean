import Derived.Test.YtpggbphcbcogdaaGreatDoorPlain
namespace Go.Proofs.YtpggbphcbcogdaaGreatDoor
namespace Pl
def cutF (s:ByteArray) (b:Nat):Nat→Nat→Nat→List ByteArray
 |0,from_,_=>[s.extract from_ s.size]
 |f+1,from_,k=>if (s.data.toList.getD k 0).toNat=b then s.extract from_ k::cutF s b f (k+1) (k+1) else cutF s b f from_ (k+1)
def cut (s:ByteArray) (b:Nat):List ByteArray:=cutF s b s.size 0 0
theorem cutF_hit {s:ByteArray} {b f from_ k:Nat} (h:k<s.size) (hb:s[k].toNat=b):cutF s b (f+1) from_ k=s.extract from_ k::cutF s b f (k+1) (k+1):=by
 rw [cutF,zj6 s k h,if_pos hb]
theorem zu {s:ByteArray} {b f from_ k:Nat} (h:k<s.size) (hb:s[k].toNat≠b):cutF s b (f+1) from_ k=cutF s b f from_ (k+1):=by
 rw [cutF,zj6 s k h,if_neg hb]
def names (s:ByteArray):List ByteArray:=if s.size=0 then [] else cut s 47
def za2 (s:ByteArray):Bool:=decide (s.size≤200)&&(names s).all zb4&&decide ((names s).length≤6)
theorem zs4 {s:ByteArray} (h:200<s.size):za2 s=false:=by simp [za2];omega
theorem pathB_bad {s:ByteArray} {k:Nat} {t:ByteArray} (h:(names s)[k]? =some t) (hb:zb4 t=false):za2 s=false:=by
 have hm:t∈names s:=List.mem_of_getElem? h
 have :(names s).all zb4=false:=by
  rw [List.all_eq_false];exact ⟨t,hm,by simp [hb]⟩
 simp [za2,this]
theorem pathB_good {s:ByteArray} (h:s.size≤200) (ha:∀ (j:Nat) t,(names s)[j]? =some t→zb4 t=true):za2 s=decide ((names s).length≤6):=by
 have :(names s).all zb4=true:=by
  rw [List.all_eq_true];intro t ht;obtain ⟨j,hj⟩:=List.mem_iff_getElem?.1 ht;exact ha j t hj
 simp [za2,this,h]
theorem zw2 (s:ByteArray) (b:Nat):∀f fr k,(cutF s b f fr k).length≤f+1:=by
 intro f
 induction f with
 |zero=>intro fr k;simp [cutF]
 |succ f ih=>
  intro fr k;rw [cutF]
  split
  ·have :=ih (k+1) (k+1);simp;omega
  ·have :=ih fr (k+1);omega
theorem zp7 (s:ByteArray):(names s).length≤s.size+1:=by
 unfold names
 split
 ·simp
 ·exact zw2 s 47 s.size 0 0
theorem cutF_size (s:ByteArray) (b:Nat):∀f fr k t,t∈cutF s b f fr k→t.size≤s.size:=by
 intro f
 induction f with
 |zero=>intro fr k t ht;simp [cutF] at ht;subst ht;simp
 |succ f ih=>
  intro fr k t ht;rw [cutF] at ht
  split at ht
  ·rcases List.mem_cons.1 ht with rfl |ht
   ·simp;omega
   ·exact ih _ _ t ht
  ·exact ih _ _ t ht
theorem names_size {s:ByteArray} {k:Nat} {t:ByteArray} (h:(names s)[k]? =some t):t.size≤s.size:=by
 have hm:t∈names s:=List.mem_of_getElem? h;unfold names at hm
 split at hm
 ·simp at hm
 ·exact cutF_size s 47 _ _ _ t hm
def zc1 (s:ByteArray):Nat→Int
 |0=> -1
 |k+1=>if (s.data.toList.getD k 0).toNat=47 then (k:Int) else zc1 s k
theorem slash_hit {s:ByteArray} {k:Nat} (h:k<s.size) (hb:s[k].toNat=47):zc1 s (k+1)=(k:Int):=by
 rw [zc1,zj6 s k h,if_pos hb]
theorem zx8 {s:ByteArray} {k:Nat} (h:k<s.size) (hb:s[k].toNat≠47):zc1 s (k+1)=zc1 s k:=by
 rw [zc1,zj6 s k h,if_neg hb]
theorem slash_lt (s:ByteArray) (k:Nat): -1≤zc1 s k∧zc1 s k<(k:Int):=by
 induction k with
 |zero=>simp [zc1]
 |succ k ih=>
  rw [zc1]
  split <;> omega
def parent (s:ByteArray):ByteArray:=if zc1 s s.size<0 then ⟨#[]⟩ else s.extract 0 (zc1 s s.size).toNat
end Pl
end Go.Proofs.YtpggbphcbcogdaaGreatDoor
