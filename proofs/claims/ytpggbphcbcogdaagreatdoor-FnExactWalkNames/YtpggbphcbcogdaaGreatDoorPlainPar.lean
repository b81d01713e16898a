import Derived.Test.YtpggbphcbcogdaaGreatDoorPlainGlue
namespace Go.Proofs.YtpggbphcbcogdaaGreatDoor
namespace Pl
theorem by_take_succ (s:ByteArray) (k:Nat) (h:k<s.size):(by_ s).take (k+1)=(by_ s).take k++[s[k]]:=take_snoc s k h
theorem slash_split (s:ByteArray):∀k,k≤s.size→((47:UInt8)∉(by_ s).take k∧zc1 s k= -1)∨∃a b,(by_ s).take k=a++47::b∧(47:UInt8)∉b∧zc1 s k=(a.length:Int):=by
 intro k
 induction k with
 |zero=>intro _;left;simp [zc1]
 |succ k ih=>
  intro hk;have hlt:k<s.size:=by omega
  have ih:=ih (by omega);rw [by_take_succ s k hlt];by_cases hb:s[k].toNat=47
  ·right
   have hb':s[k]=47:=UInt8.toNat_inj.1 hb;refine ⟨(by_ s).take k,[],by rw [hb'],by simp,?_⟩;rw [slash_hit hlt hb,List.length_take,zf,Nat.min_eq_left (by omega)]
  ·have hb':s[k]≠47:=fun e=>hb (by rw [e];rfl);rw [zx8 hlt hb]
   rcases ih with ⟨h1,h2⟩|⟨a,b,h1,h2,h3⟩
   ·left
    refine ⟨?_,h2⟩;rw [List.mem_append,not_or];exact ⟨h1,by simpa using fun e=>hb' e.symm⟩
   ·right
    refine ⟨a,b++[s[k]],by rw [h1];simp,?_,h3⟩;rw [List.mem_append,not_or];exact ⟨h2,by simpa using fun e=>hb' e.symm⟩
theorem zv9 (s:ByteArray):((47:UInt8)∉by_ s∧zc1 s s.size= -1)∨∃a b,by_ s=a++47::b∧(47:UInt8)∉b∧zc1 s s.size=(a.length:Int):=by
 have h:=slash_split s s.size (Nat.le_refl _)
 rwa [List.take_of_length_le (by rw [zf];exact Nat.le_refl _)] at h
theorem zt6 {l a b:List UInt8} (h:l=a++47::b):zi8 l=cutL a++cutL b:=by
 subst h;rw [zi8,if_neg (by simp),zw1]
theorem zw0 {l:List UInt8} (h:(47:UInt8)∉l):zi8 l=if l=[] then [] else [l]:=by
 rw [zi8];split
 ·rfl
 ·exact zo9 h
def base (s:ByteArray):ByteArray:=s.extract (zc1 s s.size+1).toNat s.size
theorem zn4 (s:ByteArray):parent s=glue (names s).dropLast:=by
 apply zh7
 rw [zk3,List.map_dropLast,zh];unfold parent
 rcases zv9 s with ⟨h1,h2⟩|⟨a,b,h1,h2,h3⟩
 ·rw [h2,if_pos (by omega),zw0 h1]
  split <;> rfl
 ·rw [h3,if_neg (by omega),zl8,zt6 h1,zo9 h2,List.dropLast_concat,glue_cutL,h1];simp
theorem base_glue (s:ByteArray):base s=glue ((names s).drop ((names s).length - 1)):=by
 apply zh7
 have hl:(names s).length=(zi8 (by_ s)).length:=by rw [←zh,List.length_map]
 rw [zk3,List.map_drop,zh,hl];unfold base
 rcases zv9 s with ⟨h1,h2⟩|⟨a,b,h1,h2,h3⟩
 ·rw [h2,zl8,zw0 h1]
  have e:List.take (s.size - ((-1:Int)+1).toNat) (List.drop ((-1:Int)+1).toNat (by_ s))=by_ s:=by
   simp [←zf]
  rw [e]
  split
  ·next h=>rw [h];rfl
  ·rfl
 ·rw [h3,zl8,zt6 h1,zo9 h2];have h4:((a.length:Int)+1).toNat=a.length+1:=by omega
  have h5:s.size=a.length+1+b.length:=by rw [←zf,h1];simp;omega
  rw [h4,h5,h1];simp [zd8]
theorem drop_last {α:Type} (L:List α):L.take (L.length - 1)=L.dropLast:=by rw [List.dropLast_eq_take]
def rest (p t:ByteArray):ByteArray:=glue ((names p).drop (names t).length)
def ze8 (p n:ByteArray):ByteArray:=glue (names p++[n])
theorem joinN_root {p n:ByteArray} (h:by_ p=[]):ze8 p n=n:=by
 apply zh7
 rw [ze8,zk3,List.map_append,zh,h];rfl
theorem joinN_two {p n:ByteArray} (h:by_ p≠[]):by_ (ze8 p n)=by_ p++47::by_ n:=by
 rw [ze8,zk3,List.map_append,zh,zv1 (by rw [zi8,if_neg h];exact cutL_ne _) (by simp),zw4];rfl
end Pl
end Go.Proofs.YtpggbphcbcogdaaGreatDoor
