/- Several texts of one claim in one file: Kit, Plain, PlainPath, PlainNode. -/
import Derived.Below
import Derived.Laws.BitsAllLaws
import Derived.WalkKit
import Derived.Laws.IdiomStrings
namespace Go.Proofs.YtpakookhgpphaaaDoor
section
open Go.RowKit
theorem hide {p:Prop} (h:p):Hid p:=h
theorem za {p:Prop} (h:Hid p):p:=h
theorem za0 {a b:Bool} (h:a=b):Ending.returned (.bool a)= .returned (.bool b):=by rw [h]
theorem yb7 {a b:ByteArray} (h:a=b):Ending.returned (.string a)= .returned (.string b):=by rw [h]
theorem zp4 {x:Int} (h:(Lit.int .i64 x).wf=true): -9223372036854775808≤x∧x≤9223372036854775807:=by
 simp [Lit.wf,IntKind.min,IntKind.max,IntKind.signed,IntKind.bits] at h
 omega
/- Short names for what the walks' simp calls name over and over. -/
theorem kA0 {α : Type _} {xs : List α} {i : Nat} : xs.toArray[i]? = xs[i]? := List.getElem?_toArray
theorem kA1 {α : Type _} {a : α} {l : List α} : (a :: l)[0]? = some a := List.getElem?_cons_zero
theorem kA2 {α : Type _} {a : α} {l : List α} {i : Nat} : (a :: l)[i + 1]? = l[i]? := List.getElem?_cons_succ
theorem kB0 {α : Type _} {xs : List α} {i : Nat} (h : i < xs.toArray.size) : xs.toArray[i] = xs[i]'(by simpa using h) := List.getElem_toArray h
theorem kB1 {α : Type _} {a : α} {as' : List α} (h : 0 < (a :: as').length) : (a :: as')[0] = a := List.getElem_cons_zero a as' h
theorem kB2 {α : Type _} {a : α} {as' : List α} {i : Nat} (h : i + 1 < (a :: as').length) : (a :: as')[i + 1] = as'[i]'(by simpa using h) := List.getElem_cons_succ a as' i h
theorem kB3 {α : Type _} (l : List α) (i : Nat) (a : α) : l.toArray.setIfInBounds i a = (l.set i a).toArray := List.setIfInBounds_toArray l i a
theorem kB4 {α : Type _} {x : α} {xs : List α} {a : α} : (x :: xs).set 0 a = a :: xs := List.set_cons_zero
theorem kB5 {α : Type _} {x : α} {xs : List α} {n : Nat} {a : α} : (x :: xs).set (n + 1) a = x :: xs.set n a := List.set_cons_succ
end
section
namespace Pl

def encF:Nat→Nat→List UInt8
 |0,u=>[UInt8.ofNat u]
 |f+1,u=>if u<128 then [UInt8.ofNat u] else UInt8.ofNat (u % 128+128)::encF f (u / 128)
def enc (u:Nat):List UInt8:=encF u u
theorem encF_same (n:Nat):∀u f g,u≤n→u≤f→u≤g→encF f u=encF g u:=by
 induction n with
 |zero=>
  intro u f g hu _ _;obtain rfl:u=0:=by omega
  cases f <;> cases g <;> simp [encF]
 |succ n ih=>
  intro u f g hu hf hg;by_cases h:u<128
  ·cases f <;> cases g <;> simp [encF,h]
  ·obtain ⟨f,rfl⟩:∃f',f=f'+1:=⟨f - 1,by omega⟩;obtain ⟨g,rfl⟩:∃g',g=g'+1:=⟨g - 1,by omega⟩;rw [encF,encF,if_neg h,if_neg h,ih (u / 128) f g (by omega) (by omega) (by omega)]

theorem enc_small {u:Nat} (h:u<128):enc u=[UInt8.ofNat u]:=by
 unfold enc;cases u with
 |zero=>rfl
 |succ u=>rw [encF,if_pos h]
theorem enc_big {u:Nat} (h:128≤u):enc u=UInt8.ofNat (u % 128+128)::enc (u / 128):=by
 obtain ⟨f,hf⟩:∃f,u=f+1:=⟨u - 1,by omega⟩
 have e:encF u u=UInt8.ofNat (u % 128+128)::encF f (u / 128):=by
  rw [show encF u u=encF (f+1) u by rw [←hf],encF,if_neg (Nat.not_lt.2 h)]
 unfold enc;rw [e,encF_same f (u / 128) f (u / 128) (by omega) (by omega) (Nat.le_refl _)]

def zj8 (u:Nat):Nat→List UInt8
 |0=>[]
 |k+1=>zj8 u k++[UInt8.ofNat (u / 128 ^ k % 128+128)]
theorem zf6 (u k:Nat):(zj8 u k).length=k:=by
 induction k with
 |zero=>rfl
 |succ k ih=>simp [zj8,ih]
theorem enc_split (u k:Nat) (h:∀j,j<k→128≤u / 128 ^ j):enc u=zj8 u k++enc (u / 128 ^ k):=by
 induction k with
 |zero=>simp [zj8]
 |succ k ih=>
  rw [ih (fun j hj=>h j (by omega)),enc_big (h k (by omega)),zj8,Nat.div_div_eq_div_mul,Nat.pow_succ];simp

structure zl2 (u k X:Nat) (C:Array Value):Prop where
 rest:X=u / 128 ^ k
 big:∀j,j<k→128≤u / 128 ^ j
 cell:∀j,j<k→C[j]? =some (.int .u8 ((u / 128 ^ j % 128+128:Nat):Int))
theorem lt_nine {u k X:Nat} (h3:X=u / 128 ^ k) (hX:128≤X) (hu:u<18446744073709551616):k<9:=by
 rcases Nat.lt_or_ge k 9 with h9|h9
 ·exact h9
 ·have h1:128 ^ 9≤128 ^ k:=Nat.pow_le_pow_right (by omega) h9;have h2:u / 128 ^ k≤u / 128 ^ 9:=Nat.div_le_div_left h1 (by decide);have h4:u / 128 ^ 9<2:=by omega
  omega
theorem zl2.lt {u k X:Nat} {C:Array Value} (h:zl2 u k X C) (hX:128≤X) (hu:u<18446744073709551616):k<9:=lt_nine h.rest hX hu
theorem zl2.step {u k X:Nat} {C:Array Value} (h:zl2 u k X C) (hX:128≤X) (hk:k<C.size):
  zl2 u (k+1) (X / 128) (C.setIfInBounds k (.int .u8 ((X % 128+128:Nat):Int))):=by
 refine ⟨?_,?_,?_⟩
 ·rw [h.rest,Nat.div_div_eq_div_mul,Nat.pow_succ]
 ·intro j hj
  rcases Nat.lt_succ_iff_lt_or_eq.1 hj with h'|rfl
  ·exact h.big j h'
  ·rw [←h.rest];exact hX
 ·intro j hj
  rcases Nat.lt_succ_iff_lt_or_eq.1 hj with h'|rfl
  ·rw [Array.getElem?_setIfInBounds_ne (by omega)];exact h.cell j h'
  ·rw [Array.getElem?_setIfInBounds_self_of_lt hk,h.rest]

theorem encTo_get (u k j:Nat) (h:j<k):(zj8 u k)[j]? =some (UInt8.ofNat (u / 128 ^ j % 128+128)):=by
 induction k with
 |zero=>omega
 |succ k ih=>
  rw [zj8]
  rcases Nat.lt_succ_iff_lt_or_eq.1 h with h'|rfl
  ·rw [List.getElem?_append_left (by rw [zf6];exact h')];exact ih h'
  ·rw [List.getElem?_append_right (by rw [zf6];exact Nat.le_refl _),zf6];simp
theorem zl2.enc {u k X:Nat} {C:Array Value} (h:zl2 u k X C) (hX:X<128):enc u=zj8 u k++[UInt8.ofNat X]:=by
 rw [enc_split u k h.big,←h.rest,enc_small hX]
theorem zl2.length {u k X:Nat} {C:Array Value} (h:zl2 u k X C) (hX:X<128):(Pl.enc u).length=k+1:=by
 rw [h.enc hX];simp [zf6]
theorem zl2.bytes {u k X:Nat} {C:Array Value} (h:zl2 u k X C) (hX:X<128) (hk:k<C.size) (j:Nat) (hj:j<(Pl.enc u).length):
  (C.setIfInBounds k (.int .u8 (X:Int)))[j]? =some (.int .u8 ((Pl.enc u)[j].toNat:Int)):=by
 have hl:=h.length hX;have hg:(Pl.enc u)[j]? =some (Pl.enc u)[j]:=List.getElem?_eq_getElem hj;generalize (Pl.enc u)[j]=b at hg ⊢;rw [h.enc hX] at hg
 rcases Nat.lt_or_ge j k with hjk|hjk
 ·rw [List.getElem?_append_left (by rw [zf6];exact hjk),encTo_get u k j hjk] at hg;have hg:=(Option.some.inj hg).symm;rw [Array.getElem?_setIfInBounds_ne (by omega),h.cell j hjk];subst hg;simp [UInt8.toNat_ofNat']
  omega
 ·obtain rfl:j=k:=by omega
  rw [List.getElem?_append_right (by rw [zf6];exact Nat.le_refl _),zf6] at hg;have hg:UInt8.ofNat X=b:=by simpa using hg
  rw [Array.getElem?_setIfInBounds_self_of_lt hk];subst hg;simp [UInt8.toNat_ofNat']
  omega

def zd6 (b:UInt8):Value:= .int .u8 (b.toNat:Int)
structure zj2 (u k X:Nat):Prop where
 rest:X=u / 128 ^ k
 big:∀j,j<k→128≤u / 128 ^ j
theorem zj2.lt {u k X:Nat} (h:zj2 u k X) (hX:128≤X) (hu:u<18446744073709551616):k<9:=lt_nine h.rest hX hu
theorem zj2.step {u k X:Nat} (h:zj2 u k X) (hX:128≤X):zj2 u (k+1) (X / 128):=by
 refine ⟨?_,?_⟩
 ·rw [h.rest,Nat.div_div_eq_div_mul,Nat.pow_succ]
 ·intro j hj
  rcases Nat.lt_succ_iff_lt_or_eq.1 hj with h'|rfl
  ·exact h.big j h'
  ·rw [←h.rest];exact hX
theorem zj2.enc {u k X:Nat} (h:zj2 u k X) (hX:X<128):Pl.enc u=zj8 u k++[UInt8.ofNat X]:=by
 rw [enc_split u k h.big,←h.rest,enc_small hX]
theorem zj2.cells {u k X:Nat} (h:zj2 u k X):(zj8 u k).map zd6++[.int .u8 ((X:Int) % 128+128)]=(zj8 u (k+1)).map zd6:=by
 rw [zj8,List.map_append,←h.rest]
 congr 1
 simp [zd6,UInt8.toNat_ofNat']
 omega
theorem zj2.last {u k X:Nat} (h:zj2 u k X) (hX:X<128):(zj8 u k).map zd6++[.int .u8 (X:Int)]=(Pl.enc u).map zd6:=by
 rw [h.enc hX,List.map_append]
 congr 1
 simp [zd6,UInt8.toNat_ofNat']
 omega
theorem zj2.length {u k X:Nat} (h:zj2 u k X) (hX:X<128):(Pl.enc u).length=k+1:=by rw [h.enc hX];simp [zf6]

def tot (ts:List ByteArray):Nat:=(ts.map ByteArray.size).sum
def cat (ts:List ByteArray):List UInt8:=(ts.map fun t=>t.data.toList).flatten
theorem zu6 (ts:List ByteArray):(cat ts).length=tot ts:=by
 induction ts with
 |nil=>rfl
 |cons t ts ih=>
  have h1:(cat (t::ts)).length=t.data.toList.length+(cat ts).length:=by simp [cat]
  have h2:tot (t::ts)=t.size+tot ts:=by simp [tot]
  rw [h1,h2,ih];rfl
theorem tot_snoc (ts:List ByteArray) (k:Nat) (t:ByteArray) (h:ts[k]? =some t):tot (ts.take (k+1))=tot (ts.take k)+t.size:=by
 rw [List.take_add_one,h];simp [tot]
theorem cat_snoc (ts:List ByteArray) (k:Nat) (t:ByteArray) (h:ts[k]? =some t):cat (ts.take (k+1))=cat (ts.take k)++t.data.toList:=by
 rw [List.take_add_one,h];simp [cat]
theorem tot_le (ts:List ByteArray) (k:Nat):tot (ts.take k)≤tot ts:=by
 have h:tot ts=tot (ts.take k)+tot (ts.drop k):=by
  have e:∀a b:List ByteArray,tot (a++b)=tot a+tot b:=fun a b=>by simp [tot]
  have :=e (ts.take k) (ts.drop k)
  rwa [List.take_append_drop] at this
 omega
theorem cat_one (a:ByteArray):cat [a]=a.data.toList:=by simp [cat]
theorem tot_one (a:ByteArray):tot [a]=a.size:=by simp [tot]
theorem part_step {ts:List ByteArray} {k:Nat} {t:ByteArray} {cur:Array Value} (h:ts[k]? =some t)
  (hp:cur.toList.take (tot (ts.take k))=(cat (ts.take k)).map zd6):
  (cur.toList.take (tot (ts.take k))++t.data.toList.map zd6++cur.toList.drop (tot (ts.take k)+t.size)).toArray.toList.take (tot (ts.take (k+1)))=(cat (ts.take (k+1))).map zd6:=by
 have hl:(cat (ts.take (k+1))).length=tot (ts.take (k+1)):=zu6 _;rw [hp,←List.map_append,←cat_snoc ts k t h,List.take_append_of_le_length (by rw [List.length_map,hl];exact Nat.le_refl _),List.take_of_length_le (by rw [List.length_map,hl];exact Nat.le_refl _)]

def four (n:Nat):List UInt8:=[UInt8.ofNat n,UInt8.ofNat (n / 256),UInt8.ofNat (n / 65536),UInt8.ofNat (n / 16777216)]
theorem take_snoc (s:ByteArray) (k:Nat) (h:k<s.size):s.data.toList.take (k+1)=s.data.toList.take k++[s[k]]:=by
 rw [List.take_succ_eq_append_getElem (by simpa using h)];rfl

abbrev okAt (j n:Nat):Prop:=(97≤n∧n≤122)∨(j≠0∧((48≤n∧n≤57)∨n=95))
def zc8 (s:ByteArray):Bool:=decide (1≤s.size∧s.size≤20∧∀j,j<s.size→okAt j ((s.data.toList.getD j 0).toNat))
theorem zk6 (s:ByteArray) (k:Nat) (h:k<s.size):s.data.toList.getD k 0=s[k]:=by
 have h':k<s.data.size:=h;simp only [List.getD,Array.getElem?_toList];rw [Array.getElem?_eq_getElem h'];rfl
theorem zz6 {s:ByteArray} (h:s.size<1):zc8 s=false:=decide_eq_false (by omega)
theorem yb2 {s:ByteArray} (h:20<s.size):zc8 s=false:=decide_eq_false (by omega)
theorem zp0 {s:ByteArray} (k:Nat) (h:k<s.size) (hb:¬okAt k s[k].toNat):zc8 s=false:=
 decide_eq_false (fun ⟨_,_,ha⟩=>hb (by have :=ha k h;rwa [zk6 s k h] at this))
theorem ya8 {s:ByteArray} (h1:¬s.size<1) (h2:¬20<s.size) (h:∀j,j<s.size→okAt j ((s.data.toList.getD j 0).toNat)):zc8 s=true:=
 decide_eq_true ⟨by omega,by omega,h⟩
theorem zt6 {s:ByteArray} {k:Nat} (h:∀j,j<k→okAt j ((s.data.toList.getD j 0).toNat)) (hk:k<s.size) (ho:okAt k s[k].toNat):
  ∀j,j<k+1→okAt j ((s.data.toList.getD j 0).toNat):=by
 intro j hj
 rcases Nat.lt_succ_iff_lt_or_eq.1 hj with h'|rfl
 ·exact h j h'
 ·rw [zk6 s j hk];exact ho

theorem kinds (n:Int):(97≤n∧n≤122)∨(¬97≤n∧48≤n∧n≤57∧(n !=95)=true)∨(¬97≤n∧48≤n∧¬n≤57∧(n !=95)=true)∨
  (¬97≤n∧48≤n∧¬n≤57∧(n !=95)=false)∨(¬97≤n∧¬48≤n∧(n !=95)=true)∨(97≤n∧¬n≤122∧48≤n∧¬n≤57∧(n !=95)=true):=by
 simp only [bne_iff_ne,ne_eq,bne_eq_false_iff_eq];omega

end Pl
end
section
namespace Pl
def cutF (s:ByteArray) (b:Nat):Nat→Nat→Nat→List ByteArray
 |0,from_,_=>[s.extract from_ s.size]
 |f+1,from_,k=>if (s.data.toList.getD k 0).toNat=b then s.extract from_ k::cutF s b f (k+1) (k+1) else cutF s b f from_ (k+1)
def cut (s:ByteArray) (b:Nat):List ByteArray:=cutF s b s.size 0 0
theorem cutF_hit {s:ByteArray} {b f from_ k:Nat} (h:k<s.size) (hb:s[k].toNat=b):cutF s b (f+1) from_ k=s.extract from_ k::cutF s b f (k+1) (k+1):=by
 rw [cutF,zk6 s k h,if_pos hb]
theorem zx1 {s:ByteArray} {b f from_ k:Nat} (h:k<s.size) (hb:s[k].toNat≠b):cutF s b (f+1) from_ k=cutF s b f from_ (k+1):=by
 rw [cutF,zk6 s k h,if_neg hb]
def names (s:ByteArray):List ByteArray:=if s.size=0 then [] else cut s 47
def za2 (s:ByteArray):Bool:=decide (s.size≤200)&&(names s).all zc8&&decide ((names s).length≤6)
theorem zv7 {s:ByteArray} (h:200<s.size):za2 s=false:=by simp [za2];omega
theorem pathB_bad {s:ByteArray} {k:Nat} {t:ByteArray} (h:(names s)[k]? =some t) (hb:zc8 t=false):za2 s=false:=by
 have hm:t∈names s:=List.mem_of_getElem? h
 have :(names s).all zc8=false:=by
  rw [List.all_eq_false];exact ⟨t,hm,by simp [hb]⟩
 simp [za2,this]
theorem pathB_good {s:ByteArray} (h:s.size≤200) (ha:∀ (j:Nat) t,(names s)[j]? =some t→zc8 t=true):za2 s=decide ((names s).length≤6):=by
 have :(names s).all zc8=true:=by
  rw [List.all_eq_true];intro t ht;obtain ⟨j,hj⟩:=List.mem_iff_getElem?.1 ht;exact ha j t hj
 simp [za2,this,h]
theorem zy5 (s:ByteArray) (b:Nat):∀f fr k,(cutF s b f fr k).length≤f+1:=by
 intro f
 induction f with
 |zero=>intro fr k;simp [cutF]
 |succ f ih=>
  intro fr k;rw [cutF]
  split
  ·have :=ih (k+1) (k+1);simp;omega
  ·have :=ih fr (k+1);omega
theorem zr1 (s:ByteArray):(names s).length≤s.size+1:=by
 unfold names
 split
 ·simp
 ·exact zy5 s 47 s.size 0 0
theorem cutF_size (s:ByteArray) (b:Nat):∀f fr k t,t∈cutF s b f fr k→t.size≤s.size:=by
 intro f
 induction f with
 |zero=>intro fr k t ht;simp [cutF] at ht;subst ht;simp
 |succ f ih=>
  intro fr k t ht;rw [cutF] at ht
  split at ht
  ·rcases List.mem_cons.1 ht with rfl |ht
   ·simp;omega
   ·exact ih _ _ t ht
  ·exact ih _ _ t ht
theorem names_size {s:ByteArray} {k:Nat} {t:ByteArray} (h:(names s)[k]? =some t):t.size≤s.size:=by
 have hm:t∈names s:=List.mem_of_getElem? h;unfold names at hm
 split at hm
 ·simp at hm
 ·exact cutF_size s 47 _ _ _ t hm
def zd0 (s:ByteArray):Nat→Int
 |0=> -1
 |k+1=>if (s.data.toList.getD k 0).toNat=47 then (k:Int) else zd0 s k
theorem slash_hit {s:ByteArray} {k:Nat} (h:k<s.size) (hb:s[k].toNat=47):zd0 s (k+1)=(k:Int):=by
 rw [zd0,zk6 s k h,if_pos hb]
theorem yb6 {s:ByteArray} {k:Nat} (h:k<s.size) (hb:s[k].toNat≠47):zd0 s (k+1)=zd0 s k:=by
 rw [zd0,zk6 s k h,if_neg hb]
theorem slash_lt (s:ByteArray) (k:Nat): -1≤zd0 s k∧zd0 s k<(k:Int):=by
 induction k with
 |zero=>simp [zd0]
 |succ k ih=>
  rw [zd0]
  split <;> omega
def parent (s:ByteArray):ByteArray:=if zd0 s s.size<0 then ⟨#[]⟩ else s.extract 0 (zd0 s s.size).toNat
end Pl
end
section
namespace Pl
structure Nd where
 path:ByteArray
 kind:Int
 data:ByteArray
 time:Int
 mark:Int
def Nd.cells (n:Nd):List Value:=[.string n.path, .int .i64 n.kind, .string n.data, .int .i64 n.time, .int .i64 n.mark]
def Nd.val (n:Nd):Value:= .agg #[.string n.path, .int .i64 n.kind, .string n.data, .int .i64 n.time, .int .i64 n.mark]
def zm9 (n:Nd):Bool:=
 if n.kind=0 then decide (n.data.size=0)&&decide (n.time=0)&&decide (1≤n.mark)
 else if n.kind=1 then decide (n.data.size=0)
 else if n.kind=2 then decide (n.mark=0) else false
def zc5 (n:Nd):Bool:=decide (n.path.size≠0)&&za2 n.path&&decide (n.data.size≤60)&&decide (0≤n.time∧n.time≤1000000)&&decide (0≤n.mark∧n.mark≤8)&&zm9 n
theorem node_root {n:Nd} (h:n.path.size=0):zc5 n=false:=by simp [zc5,h]
theorem node_path {n:Nd} (h:za2 n.path=false):zc5 n=false:=by simp [zc5,h]
theorem node_data {n:Nd} (h:60<n.data.size):zc5 n=false:=by
 have :decide (n.data.size≤60)=false:=by simp;omega
 simp [zc5,this]
theorem node_time {n:Nd} (h:¬ (0≤n.time∧n.time≤1000000)):zc5 n=false:=by
 have :decide (0≤n.time∧n.time≤1000000)=false:=by simpa using h
 unfold zc5;rw [this];simp
theorem node_mark {n:Nd} (h:¬ (0≤n.mark∧n.mark≤8)):zc5 n=false:=by
 have :decide (0≤n.mark∧n.mark≤8)=false:=by simpa using h
 unfold zc5;rw [this];simp
theorem node_kind {n:Nd} (h0:n.path.size≠0) (h1:za2 n.path=true) (h2:n.data.size≤60) (h3:0≤n.time∧n.time≤1000000) (h4:0≤n.mark∧n.mark≤8):zc5 n=zm9 n:=by
 have e3:decide (0≤n.time∧n.time≤1000000)=true:=by simpa using h3
 have e4:decide (0≤n.mark∧n.mark≤8)=true:=by simpa using h4
 unfold zc5;rw [e3,e4];simp [h0,h1,h2]
def zk9 (n:Nd):Bool:=decide (n.data.size≤60)&&decide (0≤n.time∧n.time≤1000000)&&decide (0≤n.mark∧n.mark≤8)&&zm9 n
theorem cont_data {n:Nd} (h:60<n.data.size):zk9 n=false:=by
 have :decide (n.data.size≤60)=false:=by simp;omega
 simp [zk9,this]
theorem cont_time {n:Nd} (h:¬ (0≤n.time∧n.time≤1000000)):zk9 n=false:=by
 have :decide (0≤n.time∧n.time≤1000000)=false:=by simpa using h
 unfold zk9;rw [this];simp
theorem cont_mark {n:Nd} (h:¬ (0≤n.mark∧n.mark≤8)):zk9 n=false:=by
 have :decide (0≤n.mark∧n.mark≤8)=false:=by simpa using h
 unfold zk9;rw [this];simp
theorem cont_kind {n:Nd} (h2:n.data.size≤60) (h3:0≤n.time∧n.time≤1000000) (h4:0≤n.mark∧n.mark≤8):zk9 n=zm9 n:=by
 have e3:decide (0≤n.time∧n.time≤1000000)=true:=by simpa using h3
 have e4:decide (0≤n.mark∧n.mark≤8)=true:=by simpa using h4
 unfold zk9;rw [e3,e4];simp [h2]
theorem node_cont {n:Nd} (h0:n.path.size≠0) (h1:za2 n.path=true):zc5 n=zk9 n:=by
 unfold zc5 zk9;simp [h0,h1,Bool.and_assoc]
end Pl
end
end Go.Proofs.YtpakookhgpphaaaDoor
