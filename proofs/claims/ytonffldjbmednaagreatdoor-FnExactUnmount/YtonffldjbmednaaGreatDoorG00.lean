/- Several texts of one claim in one file: Plain, PlainPath, PlainNode, Kit, PlainGlue, PlainPar, PlainR, PlainLess. -/
import Derived.Laws.BitsAllLaws
import Derived.WalkKit
import Derived.Laws.IdiomStrings
import Derived.Below
namespace Go.Proofs.YtonffldjbmednaaGreatDoor
section
namespace Pl

def encF:Nat→Nat→List UInt8
 |0,u=>[UInt8.ofNat u]
 |f+1,u=>if u<128 then [UInt8.ofNat u] else UInt8.ofNat (u % 128+128)::encF f (u / 128)
def enc (u:Nat):List UInt8:=encF u u
theorem encF_same (n:Nat):∀u f g,u≤n→u≤f→u≤g→encF f u=encF g u:=by
 induction n with
 |zero=>
  intro u f g hu _ _;obtain rfl:u=0:=by omega
  cases f <;> cases g <;> simp [encF]
 |succ n ih=>
  intro u f g hu hf hg;by_cases h:u<128
  ·cases f <;> cases g <;> simp [encF,h]
  ·obtain ⟨f,rfl⟩:∃f',f=f'+1:=⟨f - 1,by omega⟩;obtain ⟨g,rfl⟩:∃g',g=g'+1:=⟨g - 1,by omega⟩;rw [encF,encF,if_neg h,if_neg h,ih (u / 128) f g (by omega) (by omega) (by omega)]

theorem enc_small {u:Nat} (h:u<128):enc u=[UInt8.ofNat u]:=by
 unfold enc;cases u with
 |zero=>rfl
 |succ u=>rw [encF,if_pos h]
theorem enc_big {u:Nat} (h:128≤u):enc u=UInt8.ofNat (u % 128+128)::enc (u / 128):=by
 obtain ⟨f,hf⟩:∃f,u=f+1:=⟨u - 1,by omega⟩
 have e:encF u u=UInt8.ofNat (u % 128+128)::encF f (u / 128):=by
  rw [show encF u u=encF (f+1) u by rw [←hf],encF,if_neg (Nat.not_lt.2 h)]
 unfold enc;rw [e,encF_same f (u / 128) f (u / 128) (by omega) (by omega) (Nat.le_refl _)]

def zj8 (u:Nat):Nat→List UInt8
 |0=>[]
 |k+1=>zj8 u k++[UInt8.ofNat (u / 128 ^ k % 128+128)]
theorem zf6 (u k:Nat):(zj8 u k).length=k:=by
 induction k with
 |zero=>rfl
 |succ k ih=>simp [zj8,ih]
theorem enc_split (u k:Nat) (h:∀j,j<k→128≤u / 128 ^ j):enc u=zj8 u k++enc (u / 128 ^ k):=by
 induction k with
 |zero=>simp [zj8]
 |succ k ih=>
  rw [ih (fun j hj=>h j (by omega)),enc_big (h k (by omega)),zj8,Nat.div_div_eq_div_mul,Nat.pow_succ];simp

structure zl2 (u k X:Nat) (C:Array Value):Prop where
 rest:X=u / 128 ^ k
 big:∀j,j<k→128≤u / 128 ^ j
 cell:∀j,j<k→C[j]? =some (.int .u8 ((u / 128 ^ j % 128+128:Nat):Int))
theorem zl2.start (u:Nat) (C:Array Value):zl2 u 0 u C:=⟨by simp,fun _ h=>absurd h (by omega),fun _ h=>absurd h (by omega)⟩
theorem lt_nine {u k X:Nat} (h3:X=u / 128 ^ k) (hX:128≤X) (hu:u<18446744073709551616):k<9:=by
 rcases Nat.lt_or_ge k 9 with h9|h9
 ·exact h9
 ·have h1:128 ^ 9≤128 ^ k:=Nat.pow_le_pow_right (by omega) h9;have h2:u / 128 ^ k≤u / 128 ^ 9:=Nat.div_le_div_left h1 (by decide);have h4:u / 128 ^ 9<2:=by omega
  omega
theorem zl2.lt {u k X:Nat} {C:Array Value} (h:zl2 u k X C) (hX:128≤X) (hu:u<18446744073709551616):k<9:=lt_nine h.rest hX hu
theorem zl2.step {u k X:Nat} {C:Array Value} (h:zl2 u k X C) (hX:128≤X) (hk:k<C.size):
  zl2 u (k+1) (X / 128) (C.setIfInBounds k (.int .u8 ((X % 128+128:Nat):Int))):=by
 refine ⟨?_,?_,?_⟩
 ·rw [h.rest,Nat.div_div_eq_div_mul,Nat.pow_succ]
 ·intro j hj
  rcases Nat.lt_succ_iff_lt_or_eq.1 hj with h'|rfl
  ·exact h.big j h'
  ·rw [←h.rest];exact hX
 ·intro j hj
  rcases Nat.lt_succ_iff_lt_or_eq.1 hj with h'|rfl
  ·rw [Array.getElem?_setIfInBounds_ne (by omega)];exact h.cell j h'
  ·rw [Array.getElem?_setIfInBounds_self_of_lt hk,h.rest]

theorem encTo_get (u k j:Nat) (h:j<k):(zj8 u k)[j]? =some (UInt8.ofNat (u / 128 ^ j % 128+128)):=by
 induction k with
 |zero=>omega
 |succ k ih=>
  rw [zj8]
  rcases Nat.lt_succ_iff_lt_or_eq.1 h with h'|rfl
  ·rw [List.getElem?_append_left (by rw [zf6];exact h')];exact ih h'
  ·rw [List.getElem?_append_right (by rw [zf6];exact Nat.le_refl _),zf6];simp
theorem zl2.enc {u k X:Nat} {C:Array Value} (h:zl2 u k X C) (hX:X<128):enc u=zj8 u k++[UInt8.ofNat X]:=by
 rw [enc_split u k h.big,←h.rest,enc_small hX]
theorem zl2.length {u k X:Nat} {C:Array Value} (h:zl2 u k X C) (hX:X<128):(Pl.enc u).length=k+1:=by
 rw [h.enc hX];simp [zf6]
theorem zl2.bytes {u k X:Nat} {C:Array Value} (h:zl2 u k X C) (hX:X<128) (hk:k<C.size) (j:Nat) (hj:j<(Pl.enc u).length):
  (C.setIfInBounds k (.int .u8 (X:Int)))[j]? =some (.int .u8 ((Pl.enc u)[j].toNat:Int)):=by
 have hl:=h.length hX;have hg:(Pl.enc u)[j]? =some (Pl.enc u)[j]:=List.getElem?_eq_getElem hj;generalize (Pl.enc u)[j]=b at hg ⊢;rw [h.enc hX] at hg
 rcases Nat.lt_or_ge j k with hjk|hjk
 ·rw [List.getElem?_append_left (by rw [zf6];exact hjk),encTo_get u k j hjk] at hg;have hg:=(Option.some.inj hg).symm;rw [Array.getElem?_setIfInBounds_ne (by omega),h.cell j hjk];subst hg;simp [UInt8.toNat_ofNat']
  omega
 ·obtain rfl:j=k:=by omega
  rw [List.getElem?_append_right (by rw [zf6];exact Nat.le_refl _),zf6] at hg;have hg:UInt8.ofNat X=b:=by simpa using hg
  rw [Array.getElem?_setIfInBounds_self_of_lt hk];subst hg;simp [UInt8.toNat_ofNat']
  omega

def zd6 (b:UInt8):Value:= .int .u8 (b.toNat:Int)
structure zj2 (u k X:Nat):Prop where
 rest:X=u / 128 ^ k
 big:∀j,j<k→128≤u / 128 ^ j
theorem zj2.start (u:Nat):zj2 u 0 u:=⟨by simp,fun _ h=>absurd h (by omega)⟩
theorem zj2.lt {u k X:Nat} (h:zj2 u k X) (hX:128≤X) (hu:u<18446744073709551616):k<9:=lt_nine h.rest hX hu
theorem zj2.step {u k X:Nat} (h:zj2 u k X) (hX:128≤X):zj2 u (k+1) (X / 128):=by
 refine ⟨?_,?_⟩
 ·rw [h.rest,Nat.div_div_eq_div_mul,Nat.pow_succ]
 ·intro j hj
  rcases Nat.lt_succ_iff_lt_or_eq.1 hj with h'|rfl
  ·exact h.big j h'
  ·rw [←h.rest];exact hX
theorem zj2.enc {u k X:Nat} (h:zj2 u k X) (hX:X<128):Pl.enc u=zj8 u k++[UInt8.ofNat X]:=by
 rw [enc_split u k h.big,←h.rest,enc_small hX]
theorem zj2.cells {u k X:Nat} (h:zj2 u k X):(zj8 u k).map zd6++[.int .u8 ((X:Int) % 128+128)]=(zj8 u (k+1)).map zd6:=by
 rw [zj8,List.map_append,←h.rest]
 congr 1
 simp [zd6,UInt8.toNat_ofNat']
 omega
theorem zj2.last {u k X:Nat} (h:zj2 u k X) (hX:X<128):(zj8 u k).map zd6++[.int .u8 (X:Int)]=(Pl.enc u).map zd6:=by
 rw [h.enc hX,List.map_append]
 congr 1
 simp [zd6,UInt8.toNat_ofNat']
 omega
theorem zj2.length {u k X:Nat} (h:zj2 u k X) (hX:X<128):(Pl.enc u).length=k+1:=by rw [h.enc hX];simp [zf6]

def tot (ts:List ByteArray):Nat:=(ts.map ByteArray.size).sum
def cat (ts:List ByteArray):List UInt8:=(ts.map fun t=>t.data.toList).flatten
theorem zu6 (ts:List ByteArray):(cat ts).length=tot ts:=by
 induction ts with
 |nil=>rfl
 |cons t ts ih=>
  have h1:(cat (t::ts)).length=t.data.toList.length+(cat ts).length:=by simp [cat]
  have h2:tot (t::ts)=t.size+tot ts:=by simp [tot]
  rw [h1,h2,ih];rfl
theorem tot_snoc (ts:List ByteArray) (k:Nat) (t:ByteArray) (h:ts[k]? =some t):tot (ts.take (k+1))=tot (ts.take k)+t.size:=by
 rw [List.take_add_one,h];simp [tot]
theorem cat_snoc (ts:List ByteArray) (k:Nat) (t:ByteArray) (h:ts[k]? =some t):cat (ts.take (k+1))=cat (ts.take k)++t.data.toList:=by
 rw [List.take_add_one,h];simp [cat]
theorem tot_le (ts:List ByteArray) (k:Nat):tot (ts.take k)≤tot ts:=by
 have h:tot ts=tot (ts.take k)+tot (ts.drop k):=by
  have e:∀a b:List ByteArray,tot (a++b)=tot a+tot b:=fun a b=>by simp [tot]
  have :=e (ts.take k) (ts.drop k)
  rwa [List.take_append_drop] at this
 omega
theorem cat_one (a:ByteArray):cat [a]=a.data.toList:=by simp [cat]
theorem tot_one (a:ByteArray):tot [a]=a.size:=by simp [tot]
theorem ya6 (a:List UInt8) (s:ByteArray):(⟨a.toArray⟩:ByteArray)++s=⟨(a++s.data.toList).toArray⟩:=by
 apply ByteArray.ext
 simp
theorem part_step {ts:List ByteArray} {k:Nat} {t:ByteArray} {cur:Array Value} (h:ts[k]? =some t)
  (hp:cur.toList.take (tot (ts.take k))=(cat (ts.take k)).map zd6):
  (cur.toList.take (tot (ts.take k))++t.data.toList.map zd6++cur.toList.drop (tot (ts.take k)+t.size)).toArray.toList.take (tot (ts.take (k+1)))=(cat (ts.take (k+1))).map zd6:=by
 have hl:(cat (ts.take (k+1))).length=tot (ts.take (k+1)):=zu6 _;rw [hp,←List.map_append,←cat_snoc ts k t h,List.take_append_of_le_length (by rw [List.length_map,hl];exact Nat.le_refl _),List.take_of_length_le (by rw [List.length_map,hl];exact Nat.le_refl _)]

def four (n:Nat):List UInt8:=[UInt8.ofNat n,UInt8.ofNat (n / 256),UInt8.ofNat (n / 65536),UInt8.ofNat (n / 16777216)]
theorem take_snoc (s:ByteArray) (k:Nat) (h:k<s.size):s.data.toList.take (k+1)=s.data.toList.take k++[s[k]]:=by
 rw [List.take_succ_eq_append_getElem (by simpa using h)];rfl

abbrev okAt (j n:Nat):Prop:=(97≤n∧n≤122)∨(j≠0∧((48≤n∧n≤57)∨n=95))
def zc8 (s:ByteArray):Bool:=decide (1≤s.size∧s.size≤20∧∀j,j<s.size→okAt j ((s.data.toList.getD j 0).toNat))
theorem zk6 (s:ByteArray) (k:Nat) (h:k<s.size):s.data.toList.getD k 0=s[k]:=by
 have h':k<s.data.size:=h;simp only [List.getD,Array.getElem?_toList];rw [Array.getElem?_eq_getElem h'];rfl
theorem zz6 {s:ByteArray} (h:s.size<1):zc8 s=false:=decide_eq_false (by omega)
theorem yb2 {s:ByteArray} (h:20<s.size):zc8 s=false:=decide_eq_false (by omega)
theorem zp0 {s:ByteArray} (k:Nat) (h:k<s.size) (hb:¬okAt k s[k].toNat):zc8 s=false:=
 decide_eq_false (fun ⟨_,_,ha⟩=>hb (by have :=ha k h;rwa [zk6 s k h] at this))
theorem ya8 {s:ByteArray} (h1:¬s.size<1) (h2:¬20<s.size) (h:∀j,j<s.size→okAt j ((s.data.toList.getD j 0).toNat)):zc8 s=true:=
 decide_eq_true ⟨by omega,by omega,h⟩
theorem zt6 {s:ByteArray} {k:Nat} (h:∀j,j<k→okAt j ((s.data.toList.getD j 0).toNat)) (hk:k<s.size) (ho:okAt k s[k].toNat):
  ∀j,j<k+1→okAt j ((s.data.toList.getD j 0).toNat):=by
 intro j hj
 rcases Nat.lt_succ_iff_lt_or_eq.1 hj with h'|rfl
 ·exact h j h'
 ·rw [zk6 s j hk];exact ho

theorem kinds (n:Int):(97≤n∧n≤122)∨(¬97≤n∧48≤n∧n≤57∧(n !=95)=true)∨(¬97≤n∧48≤n∧¬n≤57∧(n !=95)=true)∨
  (¬97≤n∧48≤n∧¬n≤57∧(n !=95)=false)∨(¬97≤n∧¬48≤n∧(n !=95)=true)∨(97≤n∧¬n≤122∧48≤n∧¬n≤57∧(n !=95)=true):=by
 simp only [bne_iff_ne,ne_eq,bne_eq_false_iff_eq];omega

end Pl
end
section
namespace Pl
def cutF (s:ByteArray) (b:Nat):Nat→Nat→Nat→List ByteArray
 |0,from_,_=>[s.extract from_ s.size]
 |f+1,from_,k=>if (s.data.toList.getD k 0).toNat=b then s.extract from_ k::cutF s b f (k+1) (k+1) else cutF s b f from_ (k+1)
def cut (s:ByteArray) (b:Nat):List ByteArray:=cutF s b s.size 0 0
theorem cutF_hit {s:ByteArray} {b f from_ k:Nat} (h:k<s.size) (hb:s[k].toNat=b):cutF s b (f+1) from_ k=s.extract from_ k::cutF s b f (k+1) (k+1):=by
 rw [cutF,zk6 s k h,if_pos hb]
theorem zx1 {s:ByteArray} {b f from_ k:Nat} (h:k<s.size) (hb:s[k].toNat≠b):cutF s b (f+1) from_ k=cutF s b f from_ (k+1):=by
 rw [cutF,zk6 s k h,if_neg hb]
def names (s:ByteArray):List ByteArray:=if s.size=0 then [] else cut s 47
def za2 (s:ByteArray):Bool:=decide (s.size≤200)&&(names s).all zc8&&decide ((names s).length≤6)
theorem zv7 {s:ByteArray} (h:200<s.size):za2 s=false:=by simp [za2];omega
theorem pathB_bad {s:ByteArray} {k:Nat} {t:ByteArray} (h:(names s)[k]? =some t) (hb:zc8 t=false):za2 s=false:=by
 have hm:t∈names s:=List.mem_of_getElem? h
 have :(names s).all zc8=false:=by
  rw [List.all_eq_false];exact ⟨t,hm,by simp [hb]⟩
 simp [za2,this]
theorem pathB_good {s:ByteArray} (h:s.size≤200) (ha:∀ (j:Nat) t,(names s)[j]? =some t→zc8 t=true):za2 s=decide ((names s).length≤6):=by
 have :(names s).all zc8=true:=by
  rw [List.all_eq_true];intro t ht;obtain ⟨j,hj⟩:=List.mem_iff_getElem?.1 ht;exact ha j t hj
 simp [za2,this,h]
theorem zy5 (s:ByteArray) (b:Nat):∀f fr k,(cutF s b f fr k).length≤f+1:=by
 intro f
 induction f with
 |zero=>intro fr k;simp [cutF]
 |succ f ih=>
  intro fr k;rw [cutF]
  split
  ·have :=ih (k+1) (k+1);simp;omega
  ·have :=ih fr (k+1);omega
theorem zr1 (s:ByteArray):(names s).length≤s.size+1:=by
 unfold names
 split
 ·simp
 ·exact zy5 s 47 s.size 0 0
theorem cutF_size (s:ByteArray) (b:Nat):∀f fr k t,t∈cutF s b f fr k→t.size≤s.size:=by
 intro f
 induction f with
 |zero=>intro fr k t ht;simp [cutF] at ht;subst ht;simp
 |succ f ih=>
  intro fr k t ht;rw [cutF] at ht
  split at ht
  ·rcases List.mem_cons.1 ht with rfl |ht
   ·simp;omega
   ·exact ih _ _ t ht
  ·exact ih _ _ t ht
theorem names_size {s:ByteArray} {k:Nat} {t:ByteArray} (h:(names s)[k]? =some t):t.size≤s.size:=by
 have hm:t∈names s:=List.mem_of_getElem? h;unfold names at hm
 split at hm
 ·simp at hm
 ·exact cutF_size s 47 _ _ _ t hm
def zd0 (s:ByteArray):Nat→Int
 |0=> -1
 |k+1=>if (s.data.toList.getD k 0).toNat=47 then (k:Int) else zd0 s k
theorem slash_hit {s:ByteArray} {k:Nat} (h:k<s.size) (hb:s[k].toNat=47):zd0 s (k+1)=(k:Int):=by
 rw [zd0,zk6 s k h,if_pos hb]
theorem yb6 {s:ByteArray} {k:Nat} (h:k<s.size) (hb:s[k].toNat≠47):zd0 s (k+1)=zd0 s k:=by
 rw [zd0,zk6 s k h,if_neg hb]
theorem slash_lt (s:ByteArray) (k:Nat): -1≤zd0 s k∧zd0 s k<(k:Int):=by
 induction k with
 |zero=>simp [zd0]
 |succ k ih=>
  rw [zd0]
  split <;> omega
def parent (s:ByteArray):ByteArray:=if zd0 s s.size<0 then ⟨#[]⟩ else s.extract 0 (zd0 s s.size).toNat
end Pl
end
section
namespace Pl
structure Nd where
 path:ByteArray
 kind:Int
 data:ByteArray
 time:Int
 mark:Int
def Nd.cells (n:Nd):List Value:=[.string n.path, .int .i64 n.kind, .string n.data, .int .i64 n.time, .int .i64 n.mark]
def Nd.val (n:Nd):Value:= .agg #[.string n.path, .int .i64 n.kind, .string n.data, .int .i64 n.time, .int .i64 n.mark]
def zm9 (n:Nd):Bool:=
 if n.kind=0 then decide (n.data.size=0)&&decide (n.time=0)&&decide (1≤n.mark)
 else if n.kind=1 then decide (n.data.size=0)
 else if n.kind=2 then decide (n.mark=0) else false
def zc5 (n:Nd):Bool:=decide (n.path.size≠0)&&za2 n.path&&decide (n.data.size≤60)&&decide (0≤n.time∧n.time≤1000000)&&decide (0≤n.mark∧n.mark≤8)&&zm9 n
theorem node_root {n:Nd} (h:n.path.size=0):zc5 n=false:=by simp [zc5,h]
theorem node_path {n:Nd} (h:za2 n.path=false):zc5 n=false:=by simp [zc5,h]
theorem node_data {n:Nd} (h:60<n.data.size):zc5 n=false:=by
 have :decide (n.data.size≤60)=false:=by simp;omega
 simp [zc5,this]
theorem node_time {n:Nd} (h:¬ (0≤n.time∧n.time≤1000000)):zc5 n=false:=by
 have :decide (0≤n.time∧n.time≤1000000)=false:=by simpa using h
 unfold zc5;rw [this];simp
theorem node_mark {n:Nd} (h:¬ (0≤n.mark∧n.mark≤8)):zc5 n=false:=by
 have :decide (0≤n.mark∧n.mark≤8)=false:=by simpa using h
 unfold zc5;rw [this];simp
theorem node_kind {n:Nd} (h0:n.path.size≠0) (h1:za2 n.path=true) (h2:n.data.size≤60) (h3:0≤n.time∧n.time≤1000000) (h4:0≤n.mark∧n.mark≤8):zc5 n=zm9 n:=by
 have e3:decide (0≤n.time∧n.time≤1000000)=true:=by simpa using h3
 have e4:decide (0≤n.mark∧n.mark≤8)=true:=by simpa using h4
 unfold zc5;rw [e3,e4];simp [h0,h1,h2]
def zk9 (n:Nd):Bool:=decide (n.data.size≤60)&&decide (0≤n.time∧n.time≤1000000)&&decide (0≤n.mark∧n.mark≤8)&&zm9 n
theorem cont_data {n:Nd} (h:60<n.data.size):zk9 n=false:=by
 have :decide (n.data.size≤60)=false:=by simp;omega
 simp [zk9,this]
theorem cont_time {n:Nd} (h:¬ (0≤n.time∧n.time≤1000000)):zk9 n=false:=by
 have :decide (0≤n.time∧n.time≤1000000)=false:=by simpa using h
 unfold zk9;rw [this];simp
theorem cont_mark {n:Nd} (h:¬ (0≤n.mark∧n.mark≤8)):zk9 n=false:=by
 have :decide (0≤n.mark∧n.mark≤8)=false:=by simpa using h
 unfold zk9;rw [this];simp
theorem cont_kind {n:Nd} (h2:n.data.size≤60) (h3:0≤n.time∧n.time≤1000000) (h4:0≤n.mark∧n.mark≤8):zk9 n=zm9 n:=by
 have e3:decide (0≤n.time∧n.time≤1000000)=true:=by simpa using h3
 have e4:decide (0≤n.mark∧n.mark≤8)=true:=by simpa using h4
 unfold zk9;rw [e3,e4];simp [h2]
theorem node_cont {n:Nd} (h0:n.path.size≠0) (h1:za2 n.path=true):zc5 n=zk9 n:=by
 unfold zc5 zk9;simp [h0,h1,Bool.and_assoc]
end Pl
end
section
open Go.RowKit
theorem hide {p:Prop} (h:p):Hid p:=h
theorem za {p:Prop} (h:Hid p):p:=h
theorem za0 {a b:Bool} (h:a=b):Ending.returned (.bool a)= .returned (.bool b):=by rw [h]
theorem yb7 {a b:ByteArray} (h:a=b):Ending.returned (.string a)= .returned (.string b):=by rw [h]
theorem zp4 {x:Int} (h:(Lit.int .i64 x).wf=true): -9223372036854775808≤x∧x≤9223372036854775807:=by
 simp [Lit.wf,IntKind.min,IntKind.max,IntKind.signed,IntKind.bits] at h
 omega
/- Short names for what the walks' simp calls name over and over. -/
theorem kA0 {α : Type _} {xs : List α} {i : Nat} : xs.toArray[i]? = xs[i]? := List.getElem?_toArray
theorem kA1 {α : Type _} {a : α} {l : List α} : (a :: l)[0]? = some a := List.getElem?_cons_zero
theorem kA2 {α : Type _} {a : α} {l : List α} {i : Nat} : (a :: l)[i + 1]? = l[i]? := List.getElem?_cons_succ
theorem kB0 {α : Type _} {xs : List α} {i : Nat} (h : i < xs.toArray.size) : xs.toArray[i] = xs[i]'(by simpa using h) := List.getElem_toArray h
theorem kB1 {α : Type _} {a : α} {as' : List α} (h : 0 < (a :: as').length) : (a :: as')[0] = a := List.getElem_cons_zero a as' h
theorem kB2 {α : Type _} {a : α} {as' : List α} {i : Nat} (h : i + 1 < (a :: as').length) : (a :: as')[i + 1] = as'[i]'(by simpa using h) := List.getElem_cons_succ a as' i h
theorem kB3 {α : Type _} (l : List α) (i : Nat) (a : α) : l.toArray.setIfInBounds i a = (l.set i a).toArray := List.setIfInBounds_toArray l i a
theorem kB4 {α : Type _} {x : α} {xs : List α} {a : α} : (x :: xs).set 0 a = a :: xs := List.set_cons_zero
theorem kB5 {α : Type _} {x : α} {xs : List α} {n : Nat} {a : α} : (x :: xs).set (n + 1) a = x :: xs.set n a := List.set_cons_succ
end
section
namespace Pl
def by_ (t:ByteArray):List UInt8:=t.data.toList
theorem zh4 {a b:ByteArray} (h:by_ a=by_ b):a=b:=by
 apply ByteArray.ext;exact Array.toList_inj.1 h
theorem zg6 (t:ByteArray):(by_ t).length=t.size:=Array.length_toList
theorem zv1 (t:ByteArray) (a b:Nat):by_ (t.extract a b)=((by_ t).drop a).take (b - a):=by
 simp [by_,ByteArray.data_extract,Array.toList_extract,List.extract]
theorem by_mk (l:List UInt8):by_ ⟨l.toArray⟩=l:=by simp [by_]
def cutL:List UInt8→List (List UInt8)
 | []=>[[]]
 |b::l=>if b=47 then []::cutL l else match cutL l with | []=>[[b]]|h::t=>(b::h)::t
def ze1:List (List UInt8)→List UInt8
 | []=>[]
 | [a]=>a
 |a::b::r=>a++47::ze1 (b::r)
theorem cutL_ex (l:List UInt8):∃h t,cutL l=h::t:=by
 induction l with
 |nil=>exact ⟨_,_,rfl⟩
 |cons b l ih=>
  obtain ⟨h,t,e⟩:=ih;rw [cutL]
  split
  ·exact ⟨_,_,rfl⟩
  ·rw [e];exact ⟨_,_,rfl⟩
theorem cutL_ne (l:List UInt8):cutL l≠[]:=by obtain ⟨h,t,e⟩:=cutL_ex l;rw [e];exact List.cons_ne_nil _ _
theorem zr2 (l:List UInt8):cutL (47::l)=[]::cutL l:=by rw [cutL,if_pos rfl]
theorem zp2 {b:UInt8} {l h:List UInt8} {t:List (List UInt8)} (hb:b≠47) (e:cutL l=h::t):cutL (b::l)=(b::h)::t:=by
 rw [cutL,if_neg hb,e]
theorem zm6 (a:List UInt8) {L:List (List UInt8)} (h:L≠[]):ze1 (a::L)=a++47::ze1 L:=by
 cases L with
 |nil=>exact absurd rfl h
 |cons b r=>rw [ze1]
theorem glueL_push (b:UInt8) (h:List UInt8) (t:List (List UInt8)):ze1 ((b::h)::t)=b::ze1 (h::t):=by
 cases t with
 |nil=>simp [ze1]
 |cons c r=>simp [ze1]
theorem glue_cutL (l:List UInt8):ze1 (cutL l)=l:=by
 induction l with
 |nil=>rfl
 |cons b l ih=>
  by_cases hb:b=47
  ·subst hb;rw [zr2,zm6 _ (cutL_ne l),ih];rfl
  ·obtain ⟨h,t,e⟩:=cutL_ex l;rw [zp2 hb e,glueL_push,←e,ih]
theorem zz2 (a b:List UInt8):cutL (a++47::b)=cutL a++cutL b:=by
 induction a with
 |nil=>rw [List.nil_append,zr2];rfl
 |cons c a ih=>
  by_cases hc:c=47
  ·subst hc;rw [List.cons_append,zr2,ih,zr2];rfl
  ·obtain ⟨h,t,e⟩:=cutL_ex a;rw [List.cons_append,zp2 hc e,zp2 (t:=t++cutL b) hc (by rw [ih,e];rfl)];rfl
theorem zs5 {a:List UInt8} (h:(47:UInt8)∉a):cutL a=[a]:=by
 induction a with
 |nil=>rfl
 |cons c a ih=>
  rw [List.mem_cons,not_or] at h;rw [zp2 (fun e=>h.1 e.symm) (ih h.2)]
theorem cut_glueL {L:List (List UInt8)} (h0:L≠[]) (h:∀t∈L,(47:UInt8)∉t):cutL (ze1 L)=L:=by
 induction L with
 |nil=>exact absurd rfl h0
 |cons a L ih=>
  by_cases hL:L=[]
  ·subst hL;exact zs5 (h a List.mem_cons_self)
  ·rw [zm6 a hL,zz2,zs5 (h a List.mem_cons_self),ih hL (fun t ht=>h t (List.mem_cons_of_mem _ ht))];rfl
theorem glueL_append {A B:List (List UInt8)} (hA:A≠[]) (hB:B≠[]):ze1 (A++B)=ze1 A++47::ze1 B:=by
 induction A with
 |nil=>exact absurd rfl hA
 |cons a A ih=>
  by_cases h:A=[]
  ·subst h;exact zm6 a hB
  ·rw [List.cons_append,zm6 a (by simp [h]),ih h,zm6 a h];simp

theorem cutF_list (s:ByteArray):∀f fr k,f+k=s.size→fr≤k→∃h t,cutL ((by_ s).drop k)=h::t∧(cutF s 47 f fr k).map by_=(((by_ s).drop fr).take (k - fr)++h)::t:=by
 intro f
 induction f with
 |zero=>
  intro fr k hk hfr;refine ⟨[],[],?_,?_⟩
  ·rw [List.drop_of_length_le (by rw [zg6];omega)];rfl
  ·rw [cutF,List.map_cons,List.map_nil,zv1,List.append_nil];obtain rfl:k=s.size:=by omega
   rfl
 |succ f ih=>
  intro fr k hk hfr;have hlt:k<s.size:=by omega
  have hlt':k<(by_ s).length:=by rw [zg6];exact hlt
  have hd:(by_ s).drop k=s[k]::(by_ s).drop (k+1):=by
   rw [List.drop_eq_getElem_cons hlt'];rfl
  by_cases hb:s[k].toNat=47
  ·obtain ⟨h,t,e1,e2⟩:=ih (k+1) (k+1) (by omega) (Nat.le_refl _);have hb':s[k]=47:=UInt8.toNat_inj.1 hb;refine ⟨[],cutL ((by_ s).drop (k+1)),?_,?_⟩
   ·rw [hd,hb',zr2]
   ·rw [cutF_hit hlt hb,List.map_cons,e2,zv1,e1];simp
  ·obtain ⟨h,t,e1,e2⟩:=ih fr (k+1) (by omega) (by omega);have hb':s[k]≠47:=fun e=>hb (by rw [e];rfl);refine ⟨s[k]::h,t,?_,?_⟩
   ·rw [hd,zp2 hb' e1]
   ·rw [zx1 hlt hb,e2]
    congr 1
    have :k+1 - fr=(k - fr)+1:=by omega
    rw [this,List.take_add_one,List.getElem?_drop,Nat.add_sub_cancel' hfr,List.getElem?_eq_getElem hlt'];simp [by_]
    rfl
theorem cut_list (s:ByteArray):(cut s 47).map by_=cutL (by_ s):=by
 obtain ⟨h,t,e1,e2⟩:=cutF_list s s.size 0 0 (by omega) (Nat.le_refl _);rw [cut,e2];rw [List.drop_zero] at e1;rw [e1];simp
def zl5 (l:List UInt8):List (List UInt8):=if l=[] then [] else cutL l
theorem zg0 {s:ByteArray}:by_ s=[]↔s.size=0:=by rw [←zg6,List.length_eq_zero_iff]
theorem zq3 (s:ByteArray):(names s).map by_=zl5 (by_ s):=by
 unfold names zl5;by_cases h:s.size=0
 ·rw [if_pos h,if_pos (zg0.2 h)];rfl
 ·rw [if_neg h,if_neg (fun e=>h (zg0.1 e)),cut_list]
theorem glue_namesL (l:List UInt8):ze1 (zl5 l)=l:=by
 unfold zl5;split
 ·subst_vars;rfl
 ·exact glue_cutL l
def glue (ts:List ByteArray):ByteArray:=⟨(ze1 (ts.map by_)).toArray⟩
theorem zt5 (ts:List ByteArray):by_ (glue ts)=ze1 (ts.map by_):=by_mk _
theorem map_by_inj {A B:List ByteArray} (h:A.map by_=B.map by_):A=B:=by
 induction A generalizing B with
 |nil=>cases B with
  |nil=>rfl
  |cons=>simp at h
 |cons a A ih=>cases B with
  |nil=>simp at h
  |cons b B=>simp at h;rw [zh4 h.1,ih h.2]
theorem yb4 (s:ByteArray):glue (names s)=s:=by
 apply zh4;rw [zt5,zq3,glue_namesL]
theorem zp6 {t:ByteArray} (h:zc8 t=true):(47:UInt8)∉by_ t∧by_ t≠[]∧1≤t.size∧t.size≤20:=by
 have h':=of_decide_eq_true h;refine ⟨fun hm=>?_,fun e=>?_,h'.1,h'.2.1⟩
 ·obtain ⟨j,hj,e⟩:=List.getElem_of_mem hm;have hj':j<t.size:=by rw [←zg6];exact hj
  have ho:=h'.2.2 j hj'
  have e2:t.data.toList.getD j 0=47:=by
   rw [zk6 t j hj'];exact e
  rw [e2] at ho;simp [okAt] at ho
 ·have :=zg0.1 e;omega
theorem names_glue {L:List ByteArray} (h:∀t∈L,zc8 t=true):names (glue L)=L:=by
 apply map_by_inj
 rw [zq3,zt5];cases L with
 |nil=>rfl
 |cons a L=>
  have hne:ze1 ((a::L).map by_)≠[]:=by
   have ha:=(zp6 (h a List.mem_cons_self)).2.1;cases L with
   |nil=>exact ha
   |cons b L=>simp [ze1]
  rw [zl5,if_neg hne]
  apply cut_glueL (by simp)
  intro t ht;obtain ⟨u,hu,rfl⟩:=List.mem_map.1 ht;exact (zp6 (h u hu)).1
theorem glueL_le (L:List ByteArray) (h:∀t∈L,t.size≤20):(ze1 (L.map by_)).length≤21*L.length:=by
 induction L with
 |nil=>simp [ze1]
 |cons a L ih=>
  have ha:=h a List.mem_cons_self;have ih:=ih (fun t ht=>h t (List.mem_cons_of_mem _ ht));cases L with
  |nil=>simp [ze1,zg6];omega
  |cons b L=>
   simp only [List.map_cons,ze1,List.length_append,List.length_cons,zg6] at ih ⊢;omega
theorem zy2 (L:List ByteArray) (h:∀t∈L,t.size≤20):(glue L).size≤21*L.length:=by
 rw [←zg6,zt5];exact glueL_le L h
theorem pathB_all {s:ByteArray} (h:za2 s=true):(∀t∈names s,zc8 t=true)∧(names s).length≤6:=by
 simp [za2] at h
 exact ⟨h.1.2,h.2⟩
theorem zs9 {s:ByteArray}:za2 s=((names s).all zc8&&decide ((names s).length≤6)):=by
 by_cases h:s.size≤200
 ·simp [za2,h]
 ·have h1:za2 s=false:=zv7 (by omega);rw [h1];by_cases h2:(names s).all zc8=true
  ·have h3:=List.all_eq_true.1 h2;have hs:=zy2 (names s) (fun t ht=>(zp6 (h3 t ht)).2.2.2);rw [yb4] at hs;simp;intro _;omega
  ·simp at h2;simp;intro h4;obtain ⟨x,hx,hy⟩:=h2;exact absurd (h4 x hx) (by simp [hy])
end Pl
end
section
namespace Pl
theorem by_take_succ (s:ByteArray) (k:Nat) (h:k<s.size):(by_ s).take (k+1)=(by_ s).take k++[s[k]]:=take_snoc s k h
theorem slash_split (s:ByteArray):∀k,k≤s.size→((47:UInt8)∉(by_ s).take k∧zd0 s k= -1)∨∃a b,(by_ s).take k=a++47::b∧(47:UInt8)∉b∧zd0 s k=(a.length:Int):=by
 intro k
 induction k with
 |zero=>intro _;left;simp [zd0]
 |succ k ih=>
  intro hk;have hlt:k<s.size:=by omega
  have ih:=ih (by omega);rw [by_take_succ s k hlt];by_cases hb:s[k].toNat=47
  ·right
   have hb':s[k]=47:=UInt8.toNat_inj.1 hb;refine ⟨(by_ s).take k,[],by rw [hb'],by simp,?_⟩;rw [slash_hit hlt hb,List.length_take,zg6,Nat.min_eq_left (by omega)]
  ·have hb':s[k]≠47:=fun e=>hb (by rw [e];rfl);rw [yb6 hlt hb]
   rcases ih with ⟨h1,h2⟩|⟨a,b,h1,h2,h3⟩
   ·left
    refine ⟨?_,h2⟩;rw [List.mem_append,not_or];exact ⟨h1,by simpa using fun e=>hb' e.symm⟩
   ·right
    refine ⟨a,b++[s[k]],by rw [h1];simp,?_,h3⟩;rw [List.mem_append,not_or];exact ⟨h2,by simpa using fun e=>hb' e.symm⟩
theorem slash_parts (s:ByteArray):((47:UInt8)∉by_ s∧zd0 s s.size= -1)∨∃a b,by_ s=a++47::b∧(47:UInt8)∉b∧zd0 s s.size=(a.length:Int):=by
 have h:=slash_split s s.size (Nat.le_refl _)
 rwa [List.take_of_length_le (by rw [zg6];exact Nat.le_refl _)] at h
theorem namesL_split {l a b:List UInt8} (h:l=a++47::b):zl5 l=cutL a++cutL b:=by
 subst h;rw [zl5,if_neg (by simp),zz2]
theorem namesL_free {l:List UInt8} (h:(47:UInt8)∉l):zl5 l=if l=[] then [] else [l]:=by
 rw [zl5];split
 ·rfl
 ·exact zs5 h
theorem parent_glue (s:ByteArray):parent s=glue (names s).dropLast:=by
 apply zh4
 rw [zt5,List.map_dropLast,zq3];unfold parent
 rcases slash_parts s with ⟨h1,h2⟩|⟨a,b,h1,h2,h3⟩
 ·rw [h2,if_pos (by omega),namesL_free h1]
  split <;> rfl
 ·rw [h3,if_neg (by omega),zv1,namesL_split h1,zs5 h2,List.dropLast_concat,glue_cutL,h1];simp
theorem drop_last {α:Type} (L:List α):L.take (L.length - 1)=L.dropLast:=by rw [List.dropLast_eq_take]
def under (p t:ByteArray):Bool:=((names t).map by_).isPrefixOf ((names p).map by_)
theorem under_iff (p t:ByteArray):under p t=true↔(by_ t=[]∨by_ p=by_ t∨∃r,by_ p=by_ t++47::r):=by
 unfold under;rw [List.isPrefixOf_iff_prefix,zq3,zq3]
 constructor
 ·rintro ⟨R,e⟩;by_cases ht:by_ t=[]
  ·exact .inl ht
  ·right
   have e2:=congrArg ze1 e;by_cases hr:R=[]
   ·left
    subst hr;rw [List.append_nil,glue_namesL,glue_namesL] at e2;exact e2.symm
   ·right
    rw [glueL_append (by rw [zl5,if_neg ht];exact cutL_ne _) hr,glue_namesL,glue_namesL] at e2;exact ⟨_,e2.symm⟩
 ·rintro (h|h|⟨r,h⟩)
  ·rw [h];exact List.nil_prefix
  ·rw [h];exact List.prefix_refl _
  ·by_cases ht:by_ t=[]
   ·rw [ht];exact List.nil_prefix
   ·refine ⟨cutL r,?_⟩;rw [namesL_split h,zl5,if_neg ht]
def rest (p t:ByteArray):ByteArray:=glue ((names p).drop (names t).length)
theorem rest_same (p:ByteArray):rest p p=⟨#[]⟩:=by
 rw [rest,List.drop_length];rfl
end Pl
end
section
namespace Pl
def zb7 (s:ByteArray):List ByteArray:=if za2 s then names s else []
theorem zs6 {s:ByteArray} (h:za2 s=false):zb7 s=[]:=by rw [zb7,h];rfl
theorem zh5 {s:ByteArray} (h:za2 s=true):zb7 s=names s:=by rw [zb7,h];rfl
theorem cut_pos (s:ByteArray):0<(cut s 47).length:=by
 have h:=cut_list s;have :(cut s 47).length=(cutL (by_ s)).length:=by rw [←h,List.length_map]
 rw [this];exact List.length_pos_iff.2 (cutL_ne _)
theorem zg4 {s:ByteArray} (h:s.size=0):za2 s=true∧names s=[]:=by
 have h1:names s=[]:=if_pos h;exact ⟨by simp [zs9,h1],h1⟩
theorem cut_length (s:ByteArray):(cut s 47).length≤s.size+1:=zy5 s 47 s.size 0 0
theorem cut_size {s:ByteArray} {k:Nat} {t:ByteArray} (h:(cut s 47)[k]? =some t):t.size≤s.size:=cutF_size s 47 _ _ _ t (List.mem_of_getElem? h)
theorem zq (s:ByteArray):(∀t∈zb7 s,zc8 t=true)∧(zb7 s).length≤6:=by
 cases h:za2 s
 ·rw [zs6 h];simp
 ·rw [zh5 h];exact pathB_all h
theorem glue_small {L:List ByteArray} (h:∀t∈L,zc8 t=true) (h6:L.length≤20):(glue L).size≤1000000:=by
 have :=zy2 L (fun t ht=>(zp6 (h t ht)).2.2.2);omega
theorem all_take {L:List ByteArray} (h:∀t∈L,zc8 t=true) (k:Nat):∀t∈L.take k,zc8 t=true:=fun t ht=>h t (List.mem_of_mem_take ht)
theorem all_drop {L:List ByteArray} (h:∀t∈L,zc8 t=true) (k:Nat):∀t∈L.drop k,zc8 t=true:=fun t ht=>h t (List.mem_of_mem_drop ht)
def underR (A B:List ByteArray):Bool:=(B.map by_).isPrefixOf (A.map by_)
theorem underR_iff (A B:List ByteArray):underR A B=true↔∀ (j:Nat) t,B[j]? =some t→A[j]? =some t:=by
 unfold underR;rw [List.isPrefixOf_iff_prefix]
 constructor
 ·rintro ⟨R,hR⟩ j t ht
  have h1:(A.map by_)[j]? =some (by_ t):=by
   rw [←hR,List.getElem?_append_left (by rw [List.length_map];exact (List.getElem?_eq_some_iff.1 ht).1),List.getElem?_map,ht];rfl
  rw [List.getElem?_map] at h1;cases hA:A[j]? with
  |none=>rw [hA] at h1;simp at h1
  |some a=>rw [hA] at h1;simp at h1;rw [zh4 h1]
 ·intro h
  have :B=A.take B.length:=by
   apply List.ext_getElem?
   intro j;by_cases hj:j<B.length
   ·rw [List.getElem?_take_of_lt hj,List.getElem?_eq_getElem hj,h j _ (List.getElem?_eq_getElem hj)]
   ·rw [List.getElem?_eq_none (by omega),List.getElem?_eq_none (by simp;omega)]
  rw [this,List.map_take];exact List.take_prefix _ _
theorem underR_short {A B:List ByteArray} (h:A.length<B.length):underR A B=false:=by
 rw [Bool.eq_false_iff];intro h1;have h2:=(underR_iff A B).1 h1 A.length _ (List.getElem?_eq_getElem h);rw [List.getElem?_eq_none (Nat.le_refl _)] at h2;cases h2
theorem underR_not {A B:List ByteArray} {j:Nat} {a b:ByteArray} (ha:A[j]? =some a) (hb:B[j]? =some b) (h:a≠b):underR A B=false:=by
 rw [Bool.eq_false_iff];intro h1;have h2:=(underR_iff A B).1 h1 j b hb;rw [ha] at h2;cases h2;exact h rfl
theorem zw0 {a b:ByteArray} (h:a=b):(a.toList==b.toList)=true:=by rw [h];exact beq_self_eq_true _
theorem zr4 {a b:ByteArray} (h:a≠b):(a.toList==b.toList)=false:=by
 rw [beq_eq_false_iff_ne,ByteArray.toList_eq,ByteArray.toList_eq];exact fun e=>h (zh4 e)
def tOut (x:ByteArray × Int):Value:= .agg #[.string x.1, .int .i64 0, .int .i64 x.2]
def restO (p t:ByteArray):ByteArray × Int:=
 if 8000<p.size∨8000<t.size then (⟨#[]⟩,2) else if ¬ (za2 p=true∧za2 t=true) then (⟨#[]⟩,1) else if underR (zb7 p) (zb7 t)=false then (⟨#[]⟩,6) else (glue ((zb7 p).drop (zb7 t).length),0)
theorem underR_length {A B:List ByteArray} (h:underR A B=true):B.length≤A.length:=by
 by_cases hl:A.length<B.length
 ·rw [underR_short hl] at h;cases h
 ·omega
theorem zd2 {t:ByteArray}:t.toList.isEmpty=decide (by_ t=[]):=by
 rw [ByteArray.toList_eq];change (by_ t).isEmpty=_;cases by_ t <;> simp
theorem list_is {t:ByteArray} {l:List UInt8}:(t.toList==l)=decide (by_ t=l):=by
 rw [ByteArray.toList_eq];change (by_ t==l)=_;exact Bool.beq_eq_decide_eq _ _
end Pl
end
section
namespace Pl
def za3:List ByteArray→List ByteArray→Bool
 | [],[]=>false
 | [],_::_=>true
 |_::_,[]=>false
 |a::A,b::B=>if a=b then za3 A B else Op.bytesLess a.toList b.toList
theorem less_same {A B:List ByteArray} {k:Nat} {a b:ByteArray} (ha:A[k]? =some a) (hb:B[k]? =some b) (h:a=b):za3 (A.drop k) (B.drop k)=za3 (A.drop (k+1)) (B.drop (k+1)):=by
 have h1:=(List.getElem?_eq_some_iff.1 ha);have h2:=(List.getElem?_eq_some_iff.1 hb);rw [List.drop_eq_getElem_cons h1.1,List.drop_eq_getElem_cons h2.1,za3,if_pos (by rw [h1.2,h2.2];exact h)]
theorem ya5 {A B:List ByteArray} {k:Nat} {a b:ByteArray} (ha:A[k]? =some a) (hb:B[k]? =some b) (h:a≠b):za3 (A.drop k) (B.drop k)=Op.bytesLess a.toList b.toList:=by
 have h1:=(List.getElem?_eq_some_iff.1 ha);have h2:=(List.getElem?_eq_some_iff.1 hb);rw [List.drop_eq_getElem_cons h1.1,List.drop_eq_getElem_cons h2.1,za3,if_neg (by rw [h1.2,h2.2];exact h),h1.2,h2.2]
theorem less_end {A B:List ByteArray} {k:Nat} (h:k=A.length∧k≤B.length∨k=B.length∧k≤A.length):za3 (A.drop k) (B.drop k)=decide (A.length<B.length):=by
 rcases h with ⟨rfl,h⟩|⟨rfl,h⟩
 ·rw [List.drop_length];by_cases hl:A.length<B.length
  ·rw [List.drop_eq_getElem_cons hl];simp [za3,hl]
  ·rw [List.drop_of_length_le (by omega)];simp [za3,hl]
 ·rw [List.drop_length];have hn:¬A.length<B.length:=by omega
  by_cases hl:B.length<A.length
  ·rw [List.drop_eq_getElem_cons hl];simp [za3,hn]
  ·rw [List.drop_of_length_le (by omega)];simp [za3,hn]
end Pl
end
end Go.Proofs.YtonffldjbmednaaGreatDoor
