/- Several texts of one claim in one file: Plain, PlainPath, PlainNode, Kit, PlainGlue, PlainPar, PlainR, PlainLess, PlainTree. -/
import Derived.WalkKit
namespace Go.Proofs.YtgdjjncmocppeaaGreatDoor
section
namespace Pl

def encF:Nat→Nat→List UInt8
 |0,u=>[UInt8.ofNat u]
 |f+1,u=>if u<128 then [UInt8.ofNat u] else UInt8.ofNat (u % 128+128)::encF f (u / 128)
def enc (u:Nat):List UInt8:=encF u u
theorem encF_same (n:Nat):∀u f g,u≤n→u≤f→u≤g→encF f u=encF g u:=by
 induction n with
 |zero=>
  intro u f g hu _ _;obtain rfl:u=0:=by omega
  cases f <;> cases g <;> simp [encF]
 |succ n ih=>
  intro u f g hu hf hg;by_cases h:u<128
  ·cases f <;> cases g <;> simp [encF,h]
  ·obtain ⟨f,rfl⟩:∃f',f=f'+1:=⟨f - 1,by omega⟩;obtain ⟨g,rfl⟩:∃g',g=g'+1:=⟨g - 1,by omega⟩;rw [encF,encF,if_neg h,if_neg h,ih (u / 128) f g (by omega) (by omega) (by omega)]

theorem enc_small {u:Nat} (h:u<128):enc u=[UInt8.ofNat u]:=by
 unfold enc;cases u with
 |zero=>rfl
 |succ u=>rw [encF,if_pos h]
theorem enc_big {u:Nat} (h:128≤u):enc u=UInt8.ofNat (u % 128+128)::enc (u / 128):=by
 obtain ⟨f,hf⟩:∃f,u=f+1:=⟨u - 1,by omega⟩
 have e:encF u u=UInt8.ofNat (u % 128+128)::encF f (u / 128):=by
  rw [show encF u u=encF (f+1) u by rw [←hf],encF,if_neg (Nat.not_lt.2 h)]
 unfold enc;rw [e,encF_same f (u / 128) f (u / 128) (by omega) (by omega) (Nat.le_refl _)]

def zl6 (u:Nat):Nat→List UInt8
 |0=>[]
 |k+1=>zl6 u k++[UInt8.ofNat (u / 128 ^ k % 128+128)]
theorem zh (u k:Nat):(zl6 u k).length=k:=by
 induction k with
 |zero=>rfl
 |succ k ih=>simp [zl6,ih]
theorem enc_split (u k:Nat) (h:∀j,j<k→128≤u / 128 ^ j):enc u=zl6 u k++enc (u / 128 ^ k):=by
 induction k with
 |zero=>simp [zl6]
 |succ k ih=>
  rw [ih (fun j hj=>h j (by omega)),enc_big (h k (by omega)),zl6,Nat.div_div_eq_div_mul,Nat.pow_succ];simp

structure zo0 (u k X:Nat) (C:Array Value):Prop where
 rest:X=u / 128 ^ k
 big:∀j,j<k→128≤u / 128 ^ j
 cell:∀j,j<k→C[j]? =some (.int .u8 ((u / 128 ^ j % 128+128:Nat):Int))
theorem zo0.start (u:Nat) (C:Array Value):zo0 u 0 u C:=⟨by simp,fun _ h=>absurd h (by omega),fun _ h=>absurd h (by omega)⟩
theorem lt_nine {u k X:Nat} (h3:X=u / 128 ^ k) (hX:128≤X) (hu:u<18446744073709551616):k<9:=by
 rcases Nat.lt_or_ge k 9 with h9|h9
 ·exact h9
 ·have h1:128 ^ 9≤128 ^ k:=Nat.pow_le_pow_right (by omega) h9;have h2:u / 128 ^ k≤u / 128 ^ 9:=Nat.div_le_div_left h1 (by decide);have h4:u / 128 ^ 9<2:=by omega
  omega
theorem zo0.lt {u k X:Nat} {C:Array Value} (h:zo0 u k X C) (hX:128≤X) (hu:u<18446744073709551616):k<9:=lt_nine h.rest hX hu
theorem zo0.step {u k X:Nat} {C:Array Value} (h:zo0 u k X C) (hX:128≤X) (hk:k<C.size):
  zo0 u (k+1) (X / 128) (C.setIfInBounds k (.int .u8 ((X % 128+128:Nat):Int))):=by
 refine ⟨?_,?_,?_⟩
 ·rw [h.rest,Nat.div_div_eq_div_mul,Nat.pow_succ]
 ·intro j hj
  rcases Nat.lt_succ_iff_lt_or_eq.1 hj with h'|rfl
  ·exact h.big j h'
  ·rw [←h.rest];exact hX
 ·intro j hj
  rcases Nat.lt_succ_iff_lt_or_eq.1 hj with h'|rfl
  ·rw [Array.getElem?_setIfInBounds_ne (by omega)];exact h.cell j h'
  ·rw [Array.getElem?_setIfInBounds_self_of_lt hk,h.rest]

theorem encTo_get (u k j:Nat) (h:j<k):(zl6 u k)[j]? =some (UInt8.ofNat (u / 128 ^ j % 128+128)):=by
 induction k with
 |zero=>omega
 |succ k ih=>
  rw [zl6]
  rcases Nat.lt_succ_iff_lt_or_eq.1 h with h'|rfl
  ·rw [List.getElem?_append_left (by rw [zh];exact h')];exact ih h'
  ·rw [List.getElem?_append_right (by rw [zh];exact Nat.le_refl _),zh];simp
theorem zo0.enc {u k X:Nat} {C:Array Value} (h:zo0 u k X C) (hX:X<128):enc u=zl6 u k++[UInt8.ofNat X]:=by
 rw [enc_split u k h.big,←h.rest,enc_small hX]
theorem zo0.length {u k X:Nat} {C:Array Value} (h:zo0 u k X C) (hX:X<128):(Pl.enc u).length=k+1:=by
 rw [h.enc hX];simp [zh]
theorem zo0.bytes {u k X:Nat} {C:Array Value} (h:zo0 u k X C) (hX:X<128) (hk:k<C.size) (j:Nat) (hj:j<(Pl.enc u).length):
  (C.setIfInBounds k (.int .u8 (X:Int)))[j]? =some (.int .u8 ((Pl.enc u)[j].toNat:Int)):=by
 have hl:=h.length hX;have hg:(Pl.enc u)[j]? =some (Pl.enc u)[j]:=List.getElem?_eq_getElem hj;generalize (Pl.enc u)[j]=b at hg ⊢;rw [h.enc hX] at hg
 rcases Nat.lt_or_ge j k with hjk|hjk
 ·rw [List.getElem?_append_left (by rw [zh];exact hjk),encTo_get u k j hjk] at hg;have hg:=(Option.some.inj hg).symm;rw [Array.getElem?_setIfInBounds_ne (by omega),h.cell j hjk];subst hg;simp [UInt8.toNat_ofNat']
  omega
 ·obtain rfl:j=k:=by omega
  rw [List.getElem?_append_right (by rw [zh];exact Nat.le_refl _),zh] at hg;have hg:UInt8.ofNat X=b:=by simpa using hg
  rw [Array.getElem?_setIfInBounds_self_of_lt hk];subst hg;simp [UInt8.toNat_ofNat']
  omega

def zd9 (b:UInt8):Value:= .int .u8 (b.toNat:Int)
structure zl2 (u k X:Nat):Prop where
 rest:X=u / 128 ^ k
 big:∀j,j<k→128≤u / 128 ^ j
theorem zl2.start (u:Nat):zl2 u 0 u:=⟨by simp,fun _ h=>absurd h (by omega)⟩
theorem zl2.lt {u k X:Nat} (h:zl2 u k X) (hX:128≤X) (hu:u<18446744073709551616):k<9:=lt_nine h.rest hX hu
theorem zl2.step {u k X:Nat} (h:zl2 u k X) (hX:128≤X):zl2 u (k+1) (X / 128):=by
 refine ⟨?_,?_⟩
 ·rw [h.rest,Nat.div_div_eq_div_mul,Nat.pow_succ]
 ·intro j hj
  rcases Nat.lt_succ_iff_lt_or_eq.1 hj with h'|rfl
  ·exact h.big j h'
  ·rw [←h.rest];exact hX
theorem zl2.enc {u k X:Nat} (h:zl2 u k X) (hX:X<128):Pl.enc u=zl6 u k++[UInt8.ofNat X]:=by
 rw [enc_split u k h.big,←h.rest,enc_small hX]
theorem zl2.cells {u k X:Nat} (h:zl2 u k X):(zl6 u k).map zd9++[.int .u8 ((X:Int) % 128+128)]=(zl6 u (k+1)).map zd9:=by
 rw [zl6,List.map_append,←h.rest]
 congr 1
 simp [zd9,UInt8.toNat_ofNat']
 omega
theorem zl2.last {u k X:Nat} (h:zl2 u k X) (hX:X<128):(zl6 u k).map zd9++[.int .u8 (X:Int)]=(Pl.enc u).map zd9:=by
 rw [h.enc hX,List.map_append]
 congr 1
 simp [zd9,UInt8.toNat_ofNat']
 omega
theorem zl2.length {u k X:Nat} (h:zl2 u k X) (hX:X<128):(Pl.enc u).length=k+1:=by rw [h.enc hX];simp [zh]

def tot (ts:List ByteArray):Nat:=(ts.map ByteArray.size).sum
def cat (ts:List ByteArray):List UInt8:=(ts.map fun t=>t.data.toList).flatten
theorem zz5 (ts:List ByteArray):(cat ts).length=tot ts:=by
 induction ts with
 |nil=>rfl
 |cons t ts ih=>
  have h1:(cat (t::ts)).length=t.data.toList.length+(cat ts).length:=by simp [cat]
  have h2:tot (t::ts)=t.size+tot ts:=by simp [tot]
  rw [h1,h2,ih];rfl
theorem tot_snoc (ts:List ByteArray) (k:Nat) (t:ByteArray) (h:ts[k]? =some t):tot (ts.take (k+1))=tot (ts.take k)+t.size:=by
 rw [List.take_add_one,h];simp [tot]
theorem cat_snoc (ts:List ByteArray) (k:Nat) (t:ByteArray) (h:ts[k]? =some t):cat (ts.take (k+1))=cat (ts.take k)++t.data.toList:=by
 rw [List.take_add_one,h];simp [cat]
theorem tot_le (ts:List ByteArray) (k:Nat):tot (ts.take k)≤tot ts:=by
 have h:tot ts=tot (ts.take k)+tot (ts.drop k):=by
  have e:∀a b:List ByteArray,tot (a++b)=tot a+tot b:=fun a b=>by simp [tot]
  have :=e (ts.take k) (ts.drop k)
  rwa [List.take_append_drop] at this
 omega
theorem cat_one (a:ByteArray):cat [a]=a.data.toList:=by simp [cat]
theorem tot_one (a:ByteArray):tot [a]=a.size:=by simp [tot]
theorem ye3 (a:List UInt8) (s:ByteArray):(⟨a.toArray⟩:ByteArray)++s=⟨(a++s.data.toList).toArray⟩:=by
 apply ByteArray.ext
 simp
theorem part_step {ts:List ByteArray} {k:Nat} {t:ByteArray} {cur:Array Value} (h:ts[k]? =some t)
  (hp:cur.toList.take (tot (ts.take k))=(cat (ts.take k)).map zd9):
  (cur.toList.take (tot (ts.take k))++t.data.toList.map zd9++cur.toList.drop (tot (ts.take k)+t.size)).toArray.toList.take (tot (ts.take (k+1)))=(cat (ts.take (k+1))).map zd9:=by
 have hl:(cat (ts.take (k+1))).length=tot (ts.take (k+1)):=zz5 _;rw [hp,←List.map_append,←cat_snoc ts k t h,List.take_append_of_le_length (by rw [List.length_map,hl];exact Nat.le_refl _),List.take_of_length_le (by rw [List.length_map,hl];exact Nat.le_refl _)]

def four (n:Nat):List UInt8:=[UInt8.ofNat n,UInt8.ofNat (n / 256),UInt8.ofNat (n / 65536),UInt8.ofNat (n / 16777216)]
theorem take_snoc (s:ByteArray) (k:Nat) (h:k<s.size):s.data.toList.take (k+1)=s.data.toList.take k++[s[k]]:=by
 rw [List.take_succ_eq_append_getElem (by simpa using h)];rfl

abbrev okAt (j n:Nat):Prop:=(97≤n∧n≤122)∨(j≠0∧((48≤n∧n≤57)∨n=95))
def zc0 (s:ByteArray):Bool:=decide (1≤s.size∧s.size≤20∧∀j,j<s.size→okAt j ((s.data.toList.getD j 0).toNat))
theorem zm8 (s:ByteArray) (k:Nat) (h:k<s.size):s.data.toList.getD k 0=s[k]:=by
 have h':k<s.data.size:=h;simp only [List.getD,Array.getElem?_toList];rw [Array.getElem?_eq_getElem h'];rfl
theorem yd1 {s:ByteArray} (h:s.size<1):zc0 s=false:=decide_eq_false (by omega)
theorem zy3 {s:ByteArray} (h:20<s.size):zc0 s=false:=decide_eq_false (by omega)
theorem zs8 {s:ByteArray} (k:Nat) (h:k<s.size) (hb:¬okAt k s[k].toNat):zc0 s=false:=
 decide_eq_false (fun ⟨_,_,ha⟩=>hb (by have :=ha k h;rwa [zm8 s k h] at this))
theorem yg6 {s:ByteArray} (h1:¬s.size<1) (h2:¬20<s.size) (h:∀j,j<s.size→okAt j ((s.data.toList.getD j 0).toNat)):zc0 s=true:=
 decide_eq_true ⟨by omega,by omega,h⟩
theorem zw8 {s:ByteArray} {k:Nat} (h:∀j,j<k→okAt j ((s.data.toList.getD j 0).toNat)) (hk:k<s.size) (ho:okAt k s[k].toNat):
  ∀j,j<k+1→okAt j ((s.data.toList.getD j 0).toNat):=by
 intro j hj
 rcases Nat.lt_succ_iff_lt_or_eq.1 hj with h'|rfl
 ·exact h j h'
 ·rw [zm8 s j hk];exact ho

theorem kinds (n:Int):(97≤n∧n≤122)∨(¬97≤n∧48≤n∧n≤57∧(n !=95)=true)∨(¬97≤n∧48≤n∧¬n≤57∧(n !=95)=true)∨
  (¬97≤n∧48≤n∧¬n≤57∧(n !=95)=false)∨(¬97≤n∧¬48≤n∧(n !=95)=true)∨(97≤n∧¬n≤122∧48≤n∧¬n≤57∧(n !=95)=true):=by
 simp only [bne_iff_ne,ne_eq,bne_eq_false_iff_eq];omega

end Pl
end
section
namespace Pl
def cutF (s:ByteArray) (b:Nat):Nat→Nat→Nat→List ByteArray
 |0,from_,_=>[s.extract from_ s.size]
 |f+1,from_,k=>if (s.data.toList.getD k 0).toNat=b then s.extract from_ k::cutF s b f (k+1) (k+1) else cutF s b f from_ (k+1)
def cut (s:ByteArray) (b:Nat):List ByteArray:=cutF s b s.size 0 0
theorem cutF_hit {s:ByteArray} {b f from_ k:Nat} (h:k<s.size) (hb:s[k].toNat=b):cutF s b (f+1) from_ k=s.extract from_ k::cutF s b f (k+1) (k+1):=by
 rw [cutF,zm8 s k h,if_pos hb]
theorem yb0 {s:ByteArray} {b f from_ k:Nat} (h:k<s.size) (hb:s[k].toNat≠b):cutF s b (f+1) from_ k=cutF s b f from_ (k+1):=by
 rw [cutF,zm8 s k h,if_neg hb]
def names (s:ByteArray):List ByteArray:=if s.size=0 then [] else cut s 47
def za0 (s:ByteArray):Bool:=decide (s.size≤200)&&(names s).all zc0&&decide ((names s).length≤6)
theorem zn7 {s:ByteArray} (h:200<s.size):za0 s=false:=by simp [za0];omega
theorem pathB_bad {s:ByteArray} {k:Nat} {t:ByteArray} (h:(names s)[k]? =some t) (hb:zc0 t=false):za0 s=false:=by
 have hm:t∈names s:=List.mem_of_getElem? h
 have :(names s).all zc0=false:=by
  rw [List.all_eq_false];exact ⟨t,hm,by simp [hb]⟩
 simp [za0,this]
theorem pathB_good {s:ByteArray} (h:s.size≤200) (ha:∀ (j:Nat) t,(names s)[j]? =some t→zc0 t=true):za0 s=decide ((names s).length≤6):=by
 have :(names s).all zc0=true:=by
  rw [List.all_eq_true];intro t ht;obtain ⟨j,hj⟩:=List.mem_iff_getElem?.1 ht;exact ha j t hj
 simp [za0,this,h]
theorem yc8 (s:ByteArray) (b:Nat):∀f fr k,(cutF s b f fr k).length≤f+1:=by
 intro f
 induction f with
 |zero=>intro fr k;simp [cutF]
 |succ f ih=>
  intro fr k;rw [cutF]
  split
  ·have :=ih (k+1) (k+1);simp;omega
  ·have :=ih fr (k+1);omega
theorem zu8 (s:ByteArray):(names s).length≤s.size+1:=by
 unfold names
 split
 ·simp
 ·exact yc8 s 47 s.size 0 0
theorem cutF_size (s:ByteArray) (b:Nat):∀f fr k t,t∈cutF s b f fr k→t.size≤s.size:=by
 intro f
 induction f with
 |zero=>intro fr k t ht;simp [cutF] at ht;subst ht;simp
 |succ f ih=>
  intro fr k t ht;rw [cutF] at ht
  split at ht
  ·rcases List.mem_cons.1 ht with rfl |ht
   ·simp;omega
   ·exact ih _ _ t ht
  ·exact ih _ _ t ht
theorem names_size {s:ByteArray} {k:Nat} {t:ByteArray} (h:(names s)[k]? =some t):t.size≤s.size:=by
 have hm:t∈names s:=List.mem_of_getElem? h;unfold names at hm
 split at hm
 ·simp at hm
 ·exact cutF_size s 47 _ _ _ t hm
def zd0 (s:ByteArray):Nat→Int
 |0=> -1
 |k+1=>if (s.data.toList.getD k 0).toNat=47 then (k:Int) else zd0 s k
theorem slash_hit {s:ByteArray} {k:Nat} (h:k<s.size) (hb:s[k].toNat=47):zd0 s (k+1)=(k:Int):=by
 rw [zd0,zm8 s k h,if_pos hb]
theorem yf1 {s:ByteArray} {k:Nat} (h:k<s.size) (hb:s[k].toNat≠47):zd0 s (k+1)=zd0 s k:=by
 rw [zd0,zm8 s k h,if_neg hb]
theorem slash_lt (s:ByteArray) (k:Nat): -1≤zd0 s k∧zd0 s k<(k:Int):=by
 induction k with
 |zero=>simp [zd0]
 |succ k ih=>
  rw [zd0]
  split <;> omega
def parent (s:ByteArray):ByteArray:=if zd0 s s.size<0 then ⟨#[]⟩ else s.extract 0 (zd0 s s.size).toNat
end Pl
end
section
namespace Pl
structure Nd where
 path:ByteArray
 kind:Int
 data:ByteArray
 time:Int
 mark:Int
def Nd.cells (n:Nd):List Value:=[.string n.path, .int .i64 n.kind, .string n.data, .int .i64 n.time, .int .i64 n.mark]
def Nd.val (n:Nd):Value:= .agg #[.string n.path, .int .i64 n.kind, .string n.data, .int .i64 n.time, .int .i64 n.mark]
def zh8 (n:Nd):Bool:=
 if n.kind=0 then decide (n.data.size=0)&&decide (n.time=0)&&decide (1≤n.mark)
 else if n.kind=1 then decide (n.data.size=0)
 else if n.kind=2 then decide (n.mark=0) else false
def zb1 (n:Nd):Bool:=decide (n.path.size≠0)&&za0 n.path&&decide (n.data.size≤60)&&decide (0≤n.time∧n.time≤1000000)&&decide (0≤n.mark∧n.mark≤8)&&zh8 n
theorem yb1 {n:Nd} (h:n.path.size=0):zb1 n=false:=by simp [zb1,h]
theorem node_path {n:Nd} (h:za0 n.path=false):zb1 n=false:=by simp [zb1,h]
theorem node_data {n:Nd} (h:60<n.data.size):zb1 n=false:=by
 have :decide (n.data.size≤60)=false:=by simp;omega
 simp [zb1,this]
theorem node_time {n:Nd} (h:¬ (0≤n.time∧n.time≤1000000)):zb1 n=false:=by
 have :decide (0≤n.time∧n.time≤1000000)=false:=by simpa using h
 unfold zb1;rw [this];simp
theorem node_mark {n:Nd} (h:¬ (0≤n.mark∧n.mark≤8)):zb1 n=false:=by
 have :decide (0≤n.mark∧n.mark≤8)=false:=by simpa using h
 unfold zb1;rw [this];simp
theorem node_kind {n:Nd} (h0:n.path.size≠0) (h1:za0 n.path=true) (h2:n.data.size≤60) (h3:0≤n.time∧n.time≤1000000) (h4:0≤n.mark∧n.mark≤8):zb1 n=zh8 n:=by
 have e3:decide (0≤n.time∧n.time≤1000000)=true:=by simpa using h3
 have e4:decide (0≤n.mark∧n.mark≤8)=true:=by simpa using h4
 unfold zb1;rw [e3,e4];simp [h0,h1,h2]
def zn1 (n:Nd):Bool:=decide (n.data.size≤60)&&decide (0≤n.time∧n.time≤1000000)&&decide (0≤n.mark∧n.mark≤8)&&zh8 n
theorem cont_data {n:Nd} (h:60<n.data.size):zn1 n=false:=by
 have :decide (n.data.size≤60)=false:=by simp;omega
 simp [zn1,this]
theorem cont_time {n:Nd} (h:¬ (0≤n.time∧n.time≤1000000)):zn1 n=false:=by
 have :decide (0≤n.time∧n.time≤1000000)=false:=by simpa using h
 unfold zn1;rw [this];simp
theorem cont_mark {n:Nd} (h:¬ (0≤n.mark∧n.mark≤8)):zn1 n=false:=by
 have :decide (0≤n.mark∧n.mark≤8)=false:=by simpa using h
 unfold zn1;rw [this];simp
theorem cont_kind {n:Nd} (h2:n.data.size≤60) (h3:0≤n.time∧n.time≤1000000) (h4:0≤n.mark∧n.mark≤8):zn1 n=zh8 n:=by
 have e3:decide (0≤n.time∧n.time≤1000000)=true:=by simpa using h3
 have e4:decide (0≤n.mark∧n.mark≤8)=true:=by simpa using h4
 unfold zn1;rw [e3,e4];simp [h2]
theorem node_cont {n:Nd} (h0:n.path.size≠0) (h1:za0 n.path=true):zb1 n=zn1 n:=by
 unfold zb1 zn1;simp [h0,h1,Bool.and_assoc]
end Pl
end
section
open Go.RowKit
theorem hide {p:Prop} (h:p):Hid p:=h
theorem za {p:Prop} (h:Hid p):p:=h
theorem za1 {a b:Bool} (h:a=b):Ending.returned (.bool a)= .returned (.bool b):=by rw [h]
theorem zp9 {a b:ByteArray} (h:a=b):Ending.returned (.string a)= .returned (.string b):=by rw [h]
theorem zs2 {x:Int} (h:(Lit.int .i64 x).wf=true): -9223372036854775808≤x∧x≤9223372036854775807:=by
 simp [Lit.wf,IntKind.min,IntKind.max,IntKind.signed,IntKind.bits] at h
 omega
/- Short names for what the walks' simp calls name over and over. -/
theorem kA0 {α : Type _} {xs : List α} {i : Nat} : xs.toArray[i]? = xs[i]? := List.getElem?_toArray
theorem kA1 {α : Type _} {a : α} {l : List α} : (a :: l)[0]? = some a := List.getElem?_cons_zero
theorem kA2 {α : Type _} {a : α} {l : List α} {i : Nat} : (a :: l)[i + 1]? = l[i]? := List.getElem?_cons_succ
theorem kB0 {α : Type _} {xs : List α} {i : Nat} (h : i < xs.toArray.size) : xs.toArray[i] = xs[i]'(by simpa using h) := List.getElem_toArray h
theorem kB1 {α : Type _} {a : α} {as' : List α} (h : 0 < (a :: as').length) : (a :: as')[0] = a := List.getElem_cons_zero a as' h
theorem kB2 {α : Type _} {a : α} {as' : List α} {i : Nat} (h : i + 1 < (a :: as').length) : (a :: as')[i + 1] = as'[i]'(by simpa using h) := List.getElem_cons_succ a as' i h
theorem kB3 {α : Type _} (l : List α) (i : Nat) (a : α) : l.toArray.setIfInBounds i a = (l.set i a).toArray := List.setIfInBounds_toArray l i a
theorem kB4 {α : Type _} {x : α} {xs : List α} {a : α} : (x :: xs).set 0 a = a :: xs := List.set_cons_zero
theorem kB5 {α : Type _} {x : α} {xs : List α} {n : Nat} {a : α} : (x :: xs).set (n + 1) a = x :: xs.set n a := List.set_cons_succ
end
section
namespace Pl
def by_ (t:ByteArray):List UInt8:=t.data.toList
theorem ze5 {a b:ByteArray} (h:by_ a=by_ b):a=b:=by
 apply ByteArray.ext;exact Array.toList_inj.1 h
theorem zc3 (t:ByteArray):(by_ t).length=t.size:=Array.length_toList
theorem zq (t:ByteArray) (a b:Nat):by_ (t.extract a b)=((by_ t).drop a).take (b - a):=by
 simp [by_,ByteArray.data_extract,Array.toList_extract,List.extract]
theorem by_mk (l:List UInt8):by_ ⟨l.toArray⟩=l:=by simp [by_]
def cutL:List UInt8→List (List UInt8)
 | []=>[[]]
 |b::l=>if b=47 then []::cutL l else match cutL l with | []=>[[b]]|h::t=>(b::h)::t
def ze3:List (List UInt8)→List UInt8
 | []=>[]
 | [a]=>a
 |a::b::r=>a++47::ze3 (b::r)
theorem cutL_ex (l:List UInt8):∃h t,cutL l=h::t:=by
 induction l with
 |nil=>exact ⟨_,_,rfl⟩
 |cons b l ih=>
  obtain ⟨h,t,e⟩:=ih;rw [cutL]
  split
  ·exact ⟨_,_,rfl⟩
  ·rw [e];exact ⟨_,_,rfl⟩
theorem zx5 (l:List UInt8):cutL l≠[]:=by obtain ⟨h,t,e⟩:=cutL_ex l;rw [e];exact List.cons_ne_nil _ _
theorem zu7 (l:List UInt8):cutL (47::l)=[]::cutL l:=by rw [cutL,if_pos rfl]
theorem zs3 {b:UInt8} {l h:List UInt8} {t:List (List UInt8)} (hb:b≠47) (e:cutL l=h::t):cutL (b::l)=(b::h)::t:=by
 rw [cutL,if_neg hb,e]
theorem zp6 (a:List UInt8) {L:List (List UInt8)} (h:L≠[]):ze3 (a::L)=a++47::ze3 L:=by
 cases L with
 |nil=>exact absurd rfl h
 |cons b r=>rw [ze3]
theorem glueL_push (b:UInt8) (h:List UInt8) (t:List (List UInt8)):ze3 ((b::h)::t)=b::ze3 (h::t):=by
 cases t with
 |nil=>simp [ze3]
 |cons c r=>simp [ze3]
theorem yc4 (l:List UInt8):ze3 (cutL l)=l:=by
 induction l with
 |nil=>rfl
 |cons b l ih=>
  by_cases hb:b=47
  ·subst hb;rw [zu7,zp6 _ (zx5 l),ih];rfl
  ·obtain ⟨h,t,e⟩:=cutL_ex l;rw [zs3 hb e,glueL_push,←e,ih]
theorem yd6 (a b:List UInt8):cutL (a++47::b)=cutL a++cutL b:=by
 induction a with
 |nil=>rw [List.nil_append,zu7];rfl
 |cons c a ih=>
  by_cases hc:c=47
  ·subst hc;rw [List.cons_append,zu7,ih,zu7];rfl
  ·obtain ⟨h,t,e⟩:=cutL_ex a;rw [List.cons_append,zs3 hc e,zs3 (t:=t++cutL b) hc (by rw [ih,e];rfl)];rfl
theorem zv0 {a:List UInt8} (h:(47:UInt8)∉a):cutL a=[a]:=by
 induction a with
 |nil=>rfl
 |cons c a ih=>
  rw [List.mem_cons,not_or] at h;rw [zs3 (fun e=>h.1 e.symm) (ih h.2)]
theorem cut_glueL {L:List (List UInt8)} (h0:L≠[]) (h:∀t∈L,(47:UInt8)∉t):cutL (ze3 L)=L:=by
 induction L with
 |nil=>exact absurd rfl h0
 |cons a L ih=>
  by_cases hL:L=[]
  ·subst hL;exact zv0 (h a List.mem_cons_self)
  ·rw [zp6 a hL,yd6,zv0 (h a List.mem_cons_self),ih hL (fun t ht=>h t (List.mem_cons_of_mem _ ht))];rfl
theorem zq0 {A B:List (List UInt8)} (hA:A≠[]) (hB:B≠[]):ze3 (A++B)=ze3 A++47::ze3 B:=by
 induction A with
 |nil=>exact absurd rfl hA
 |cons a A ih=>
  by_cases h:A=[]
  ·subst h;exact zp6 a hB
  ·rw [List.cons_append,zp6 a (by simp [h]),ih h,zp6 a h];simp

theorem cutF_list (s:ByteArray):∀f fr k,f+k=s.size→fr≤k→∃h t,cutL ((by_ s).drop k)=h::t∧(cutF s 47 f fr k).map by_=(((by_ s).drop fr).take (k - fr)++h)::t:=by
 intro f
 induction f with
 |zero=>
  intro fr k hk hfr;refine ⟨[],[],?_,?_⟩
  ·rw [List.drop_of_length_le (by rw [zc3];omega)];rfl
  ·rw [cutF,List.map_cons,List.map_nil,zq,List.append_nil];obtain rfl:k=s.size:=by omega
   rfl
 |succ f ih=>
  intro fr k hk hfr;have hlt:k<s.size:=by omega
  have hlt':k<(by_ s).length:=by rw [zc3];exact hlt
  have hd:(by_ s).drop k=s[k]::(by_ s).drop (k+1):=by
   rw [List.drop_eq_getElem_cons hlt'];rfl
  by_cases hb:s[k].toNat=47
  ·obtain ⟨h,t,e1,e2⟩:=ih (k+1) (k+1) (by omega) (Nat.le_refl _);have hb':s[k]=47:=UInt8.toNat_inj.1 hb;refine ⟨[],cutL ((by_ s).drop (k+1)),?_,?_⟩
   ·rw [hd,hb',zu7]
   ·rw [cutF_hit hlt hb,List.map_cons,e2,zq,e1];simp
  ·obtain ⟨h,t,e1,e2⟩:=ih fr (k+1) (by omega) (by omega);have hb':s[k]≠47:=fun e=>hb (by rw [e];rfl);refine ⟨s[k]::h,t,?_,?_⟩
   ·rw [hd,zs3 hb' e1]
   ·rw [yb0 hlt hb,e2]
    congr 1
    have :k+1 - fr=(k - fr)+1:=by omega
    rw [this,List.take_add_one,List.getElem?_drop,Nat.add_sub_cancel' hfr,List.getElem?_eq_getElem hlt'];simp [by_]
    rfl
theorem cut_list (s:ByteArray):(cut s 47).map by_=cutL (by_ s):=by
 obtain ⟨h,t,e1,e2⟩:=cutF_list s s.size 0 0 (by omega) (Nat.le_refl _);rw [cut,e2];rw [List.drop_zero] at e1;rw [e1];simp
def zj2 (l:List UInt8):List (List UInt8):=if l=[] then [] else cutL l
theorem ze8 {s:ByteArray}:by_ s=[]↔s.size=0:=by rw [←zc3,List.length_eq_zero_iff]
theorem zg0 (s:ByteArray):(names s).map by_=zj2 (by_ s):=by
 unfold names zj2;by_cases h:s.size=0
 ·rw [if_pos h,if_pos (ze8.2 h)];rfl
 ·rw [if_neg h,if_neg (fun e=>h (ze8.1 e)),cut_list]
theorem zl4 (l:List UInt8):ze3 (zj2 l)=l:=by
 unfold zj2;split
 ·subst_vars;rfl
 ·exact yc4 l
def glue (ts:List ByteArray):ByteArray:=⟨(ze3 (ts.map by_)).toArray⟩
theorem zn0 (ts:List ByteArray):by_ (glue ts)=ze3 (ts.map by_):=by_mk _
theorem yg0 {A B:List ByteArray} (h:A.map by_=B.map by_):A=B:=by
 induction A generalizing B with
 |nil=>cases B with
  |nil=>rfl
  |cons=>simp at h
 |cons a A ih=>cases B with
  |nil=>simp at h
  |cons b B=>simp at h;rw [ze5 h.1,ih h.2]
theorem zl0 (s:ByteArray):glue (names s)=s:=by
 apply ze5;rw [zn0,zg0,zl4]
theorem zo7 {t:ByteArray} (h:zc0 t=true):(47:UInt8)∉by_ t∧by_ t≠[]∧1≤t.size∧t.size≤20:=by
 have h':=of_decide_eq_true h;refine ⟨fun hm=>?_,fun e=>?_,h'.1,h'.2.1⟩
 ·obtain ⟨j,hj,e⟩:=List.getElem_of_mem hm;have hj':j<t.size:=by rw [←zc3];exact hj
  have ho:=h'.2.2 j hj'
  have e2:t.data.toList.getD j 0=47:=by
   rw [zm8 t j hj'];exact e
  rw [e2] at ho;simp [okAt] at ho
 ·have :=ze8.1 e;omega
theorem zk6 {L:List ByteArray} (h:∀t∈L,zc0 t=true):names (glue L)=L:=by
 apply yg0
 rw [zg0,zn0];cases L with
 |nil=>rfl
 |cons a L=>
  have hne:ze3 ((a::L).map by_)≠[]:=by
   have ha:=(zo7 (h a List.mem_cons_self)).2.1;cases L with
   |nil=>exact ha
   |cons b L=>simp [ze3]
  rw [zj2,if_neg hne]
  apply cut_glueL (by simp)
  intro t ht;obtain ⟨u,hu,rfl⟩:=List.mem_map.1 ht;exact (zo7 (h u hu)).1
theorem glueL_le (L:List ByteArray) (h:∀t∈L,t.size≤20):(ze3 (L.map by_)).length≤21*L.length:=by
 induction L with
 |nil=>simp [ze3]
 |cons a L ih=>
  have ha:=h a List.mem_cons_self;have ih:=ih (fun t ht=>h t (List.mem_cons_of_mem _ ht));cases L with
  |nil=>simp [ze3,zc3];omega
  |cons b L=>
   simp only [List.map_cons,ze3,List.length_append,List.length_cons,zc3] at ih ⊢;omega
theorem zv8 (L:List ByteArray) (h:∀t∈L,t.size≤20):(glue L).size≤21*L.length:=by
 rw [←zc3,zn0];exact glueL_le L h
theorem zl9 {s:ByteArray} (h:za0 s=true):(∀t∈names s,zc0 t=true)∧(names s).length≤6:=by
 simp [za0] at h
 exact ⟨h.1.2,h.2⟩
theorem ye4 {L:List ByteArray} (h:∀t∈L,zc0 t=true) (h6:L.length≤6):za0 (glue L)=true:=by
 have hs:=zv8 L (fun t ht=>(zo7 (h t ht)).2.2.2);simp [za0,zk6 h]
 exact ⟨⟨by omega,h⟩,h6⟩
theorem zw6 {s:ByteArray}:za0 s=((names s).all zc0&&decide ((names s).length≤6)):=by
 by_cases h:s.size≤200
 ·simp [za0,h]
 ·have h1:za0 s=false:=zn7 (by omega);rw [h1];by_cases h2:(names s).all zc0=true
  ·have h3:=List.all_eq_true.1 h2;have hs:=zv8 (names s) (fun t ht=>(zo7 (h3 t ht)).2.2.2);rw [zl0] at hs;simp;intro _;omega
  ·simp at h2;simp;intro h4;obtain ⟨x,hx,hy⟩:=h2;exact absurd (h4 x hx) (by simp [hy])
end Pl
end
section
namespace Pl
theorem by_take_succ (s:ByteArray) (k:Nat) (h:k<s.size):(by_ s).take (k+1)=(by_ s).take k++[s[k]]:=take_snoc s k h
theorem slash_split (s:ByteArray):∀k,k≤s.size→((47:UInt8)∉(by_ s).take k∧zd0 s k= -1)∨∃a b,(by_ s).take k=a++47::b∧(47:UInt8)∉b∧zd0 s k=(a.length:Int):=by
 intro k
 induction k with
 |zero=>intro _;left;simp [zd0]
 |succ k ih=>
  intro hk;have hlt:k<s.size:=by omega
  have ih:=ih (by omega);rw [by_take_succ s k hlt];by_cases hb:s[k].toNat=47
  ·right
   have hb':s[k]=47:=UInt8.toNat_inj.1 hb;refine ⟨(by_ s).take k,[],by rw [hb'],by simp,?_⟩;rw [slash_hit hlt hb,List.length_take,zc3,Nat.min_eq_left (by omega)]
  ·have hb':s[k]≠47:=fun e=>hb (by rw [e];rfl);rw [yf1 hlt hb]
   rcases ih with ⟨h1,h2⟩|⟨a,b,h1,h2,h3⟩
   ·left
    refine ⟨?_,h2⟩;rw [List.mem_append,not_or];exact ⟨h1,by simpa using fun e=>hb' e.symm⟩
   ·right
    refine ⟨a,b++[s[k]],by rw [h1];simp,?_,h3⟩;rw [List.mem_append,not_or];exact ⟨h2,by simpa using fun e=>hb' e.symm⟩
theorem slash_parts (s:ByteArray):((47:UInt8)∉by_ s∧zd0 s s.size= -1)∨∃a b,by_ s=a++47::b∧(47:UInt8)∉b∧zd0 s s.size=(a.length:Int):=by
 have h:=slash_split s s.size (Nat.le_refl _)
 rwa [List.take_of_length_le (by rw [zc3];exact Nat.le_refl _)] at h
theorem zu {l a b:List UInt8} (h:l=a++47::b):zj2 l=cutL a++cutL b:=by
 subst h;rw [zj2,if_neg (by simp),yd6]
theorem namesL_free {l:List UInt8} (h:(47:UInt8)∉l):zj2 l=if l=[] then [] else [l]:=by
 rw [zj2];split
 ·rfl
 ·exact zv0 h
theorem zw5 (s:ByteArray):parent s=glue (names s).dropLast:=by
 apply ze5
 rw [zn0,List.map_dropLast,zg0];unfold parent
 rcases slash_parts s with ⟨h1,h2⟩|⟨a,b,h1,h2,h3⟩
 ·rw [h2,if_pos (by omega),namesL_free h1]
  split <;> rfl
 ·rw [h3,if_neg (by omega),zq,zu h1,zv0 h2,List.dropLast_concat,yc4,h1];simp
theorem drop_last {α:Type} (L:List α):L.take (L.length - 1)=L.dropLast:=by rw [List.dropLast_eq_take]
def rest (p t:ByteArray):ByteArray:=glue ((names p).drop (names t).length)
def joinN (p n:ByteArray):ByteArray:=glue (names p++[n])
theorem joinN_root {p n:ByteArray} (h:by_ p=[]):joinN p n=n:=by
 apply ze5
 rw [joinN,zn0,List.map_append,zg0,h];rfl
theorem joinN_two {p n:ByteArray} (h:by_ p≠[]):by_ (joinN p n)=by_ p++47::by_ n:=by
 rw [joinN,zn0,List.map_append,zg0,zq0 (by rw [zj2,if_neg h];exact zx5 _) (by simp),zl4];rfl
end Pl
end
section
namespace Pl
def za6 (s:ByteArray):List ByteArray:=if za0 s then names s else []
theorem zv5 {s:ByteArray} (h:za0 s=false):za6 s=[]:=by rw [za6,h];rfl
theorem zc5 {s:ByteArray} (h:za0 s=true):za6 s=names s:=by rw [za6,h];rfl
theorem cut_pos (s:ByteArray):0<(cut s 47).length:=by
 have h:=cut_list s;have :(cut s 47).length=(cutL (by_ s)).length:=by rw [←h,List.length_map]
 rw [this];exact List.length_pos_iff.2 (zx5 _)
theorem zh9 {s:ByteArray} (h:s.size=0):za0 s=true∧names s=[]:=by
 have h1:names s=[]:=if_pos h;exact ⟨by simp [zw6,h1],h1⟩
theorem cut_length (s:ByteArray):(cut s 47).length≤s.size+1:=yc8 s 47 s.size 0 0
theorem cut_size {s:ByteArray} {k:Nat} {t:ByteArray} (h:(cut s 47)[k]? =some t):t.size≤s.size:=cutF_size s 47 _ _ _ t (List.mem_of_getElem? h)
theorem ze7 (s:ByteArray):(∀t∈za6 s,zc0 t=true)∧(za6 s).length≤6:=by
 cases h:za0 s
 ·rw [zv5 h];simp
 ·rw [zc5 h];exact zl9 h
theorem zt5 {L:List ByteArray} (h:∀t∈L,zc0 t=true) (h6:L.length≤20):(glue L).size≤1000000:=by
 have :=zv8 L (fun t ht=>(zo7 (h t ht)).2.2.2);omega
theorem zq6 {L:List ByteArray} (h:∀t∈L,zc0 t=true) (k:Nat):∀t∈L.take k,zc0 t=true:=fun t ht=>h t (List.mem_of_mem_take ht)
theorem zq4 {a b:ByteArray} (h:a=b):(a.toList==b.toList)=true:=by rw [h];exact beq_self_eq_true _
theorem zj5 {a b:ByteArray} (h:a≠b):(a.toList==b.toList)=false:=by
 rw [beq_eq_false_iff_ne,ByteArray.toList_eq,ByteArray.toList_eq];exact fun e=>h (ze5 e)
theorem zb3 {t:ByteArray}:t.toList.isEmpty=decide (by_ t=[]):=by
 rw [ByteArray.toList_eq];change (by_ t).isEmpty=_;cases by_ t <;> simp
theorem list_is {t:ByteArray} {l:List UInt8}:(t.toList==l)=decide (by_ t=l):=by
 rw [ByteArray.toList_eq];change (by_ t==l)=_;exact Bool.beq_eq_decide_eq _ _
end Pl
end
section
namespace Pl
def za5:List ByteArray→List ByteArray→Bool
 | [],[]=>false
 | [],_::_=>true
 |_::_,[]=>false
 |a::A,b::B=>if a=b then za5 A B else Op.bytesLess a.toList b.toList
theorem less_same {A B:List ByteArray} {k:Nat} {a b:ByteArray} (ha:A[k]? =some a) (hb:B[k]? =some b) (h:a=b):za5 (A.drop k) (B.drop k)=za5 (A.drop (k+1)) (B.drop (k+1)):=by
 have h1:=(List.getElem?_eq_some_iff.1 ha);have h2:=(List.getElem?_eq_some_iff.1 hb);rw [List.drop_eq_getElem_cons h1.1,List.drop_eq_getElem_cons h2.1,za5,if_pos (by rw [h1.2,h2.2];exact h)]
theorem ye2 {A B:List ByteArray} {k:Nat} {a b:ByteArray} (ha:A[k]? =some a) (hb:B[k]? =some b) (h:a≠b):za5 (A.drop k) (B.drop k)=Op.bytesLess a.toList b.toList:=by
 have h1:=(List.getElem?_eq_some_iff.1 ha);have h2:=(List.getElem?_eq_some_iff.1 hb);rw [List.drop_eq_getElem_cons h1.1,List.drop_eq_getElem_cons h2.1,za5,if_neg (by rw [h1.2,h2.2];exact h),h1.2,h2.2]
theorem less_end {A B:List ByteArray} {k:Nat} (h:k=A.length∧k≤B.length∨k=B.length∧k≤A.length):za5 (A.drop k) (B.drop k)=decide (A.length<B.length):=by
 rcases h with ⟨rfl,h⟩|⟨rfl,h⟩
 ·rw [List.drop_length];by_cases hl:A.length<B.length
  ·rw [List.drop_eq_getElem_cons hl];simp [za5,hl]
  ·rw [List.drop_of_length_le (by omega)];simp [za5,hl]
 ·rw [List.drop_length];have hn:¬A.length<B.length:=by omega
  by_cases hl:B.length<A.length
  ·rw [List.drop_eq_getElem_cons hl];simp [za5,hn]
  ·rw [List.drop_of_length_le (by omega)];simp [za5,hn]
end Pl
end
section
namespace Pl
theorem bytes_trans:∀a b c:List UInt8,Op.bytesLess a b=true→Op.bytesLess b c=true→Op.bytesLess a c=true:=by
 intro a
 induction a with
 |nil=>
  intro b c h1 h2;cases c with
  |nil=>cases b <;> simp [Op.bytesLess] at h2
  |cons z c=>rfl
 |cons x a ih=>
  intro b c h1 h2;cases b with
  |nil=>simp [Op.bytesLess] at h1
  |cons y b=>
   cases c with
   |nil=>simp [Op.bytesLess] at h2
   |cons z c=>
    simp only [Op.bytesLess,Bool.or_eq_true,decide_eq_true_eq,Bool.and_eq_true,beq_iff_eq] at h1 h2 ⊢
    rcases h1 with h1|⟨rfl,h1⟩
    ·rcases h2 with h2|⟨rfl,h2⟩
     ·left;rw [UInt8.lt_iff_toNat_lt] at h1 h2 ⊢;omega
     ·left;exact h1
    ·rcases h2 with h2|⟨rfl,h2⟩
     ·left;exact h2
     ·right;exact ⟨rfl,ih b c h1 h2⟩
theorem bytes_irr:∀a:List UInt8,Op.bytesLess a a=false:=by
 intro a
 induction a with
 |nil=>rfl
 |cons x a ih=>simp [Op.bytesLess,ih]
theorem zk7:∀A B C:List ByteArray,za5 A B=true→za5 B C=true→za5 A C=true:=by
 intro A
 induction A with
 |nil=>
  intro B C h1 h2;cases C with
  |nil=>cases B <;> simp [za5] at h2
  |cons c C=>rfl
 |cons a A ih=>
  intro B C h1 h2;cases B with
  |nil=>simp [za5] at h1
  |cons b B=>
   cases C with
   |nil=>simp [za5] at h2
   |cons c C=>
    rw [za5] at h1 h2 ⊢;by_cases hab:a=b
    ·subst hab;rw [if_pos rfl] at h1;by_cases hac:a=c
     ·subst hac;rw [if_pos rfl] at h2 ⊢;exact ih B C h1 h2
     ·rw [if_neg hac] at h2 ⊢;exact h2
    ·rw [if_neg hab] at h1;by_cases hbc:b=c
     ·subst hbc;rw [if_neg hab];exact h1
     ·rw [if_neg hbc] at h2;have h3:=bytes_trans _ _ _ h1 h2;by_cases hac:a=c
      ·subst hac;rw [bytes_irr] at h3;cases h3
      ·rw [if_neg hac];exact h3
theorem zo6:∀A:List ByteArray,za5 A A=false:=by
 intro A
 induction A with
 |nil=>rfl
 |cons a A ih=>rw [za5,if_pos rfl,ih]
theorem less_drop:∀A:List ByteArray,A≠[]→za5 A.dropLast A=true:=by
 intro A h;have h1:A.dropLast++[A.getLast h]=A:=List.dropLast_concat_getLast h
 have h2:∀ (B:List ByteArray) (x:ByteArray),za5 B (B++[x])=true:=by
  intro B x
  induction B with
  |nil=>rfl
  |cons b B ih=>rw [List.cons_append,za5,if_pos rfl];exact ih
 have h3:=h2 A.dropLast (A.getLast h);rw [h1] at h3;exact h3
def ltP (a b:ByteArray):Bool:=za0 a&&za0 b&&za5 (za6 a) (za6 b)
def zb5 (p:ByteArray):ByteArray:=glue (za6 p).dropLast
def parI (C:List Nd) (p:ByteArray):Bool:=decide ((zb5 p).size=0)||C.any (fun m=>decide (m.path=zb5 p)&&decide (m.kind=1))
def goI (C:List Nd) (last:ByteArray):List Nd→Bool
 | []=>true
 |n::r=>zb1 n&&ltP last n.path&&parI C n.path&&goI (C++[n]) n.path r
def zc7 (L:List Nd):Bool:=decide (L.length≤40)&&goI [] ⟨#[]⟩ L
def dirS (L:List Nd) (p:ByteArray):Bool:=decide (p.size=0)||(match L.find? (fun m=>decide (m.path=p)) with |some m=>decide (m.kind=1)|none=>false)
def prevB (prev:Option ByteArray) (p:ByteArray):Bool:=match prev with |none=>true|some q=>za5 (names q) (names p)
def goS (L:List Nd) (prev:Option ByteArray):List Nd→Bool
 | []=>true
 |n::r=>zb1 n&&prevB prev n.path&&dirS L (parent n.path)&&goS L (some n.path) r
theorem zn5 {n:Nd} (h:zb1 n=true):za0 n.path=true∧n.path.size≠0:=by
 unfold zb1 at h;simp only [Bool.and_eq_true,decide_eq_true_eq] at h;exact ⟨h.1.1.1.1.2,h.1.1.1.1.1⟩
theorem zr1 {n:Nd} (h:zb1 n=true):n.data.size≤60∧(0≤n.time∧n.time≤1000000)∧(0≤n.mark∧n.mark≤8)∧zh8 n=true:=by
 unfold zb1 at h;simp only [Bool.and_eq_true,decide_eq_true_eq] at h;exact ⟨h.1.1.1.2,h.1.1.2,h.1.2,h.2⟩
theorem zj4 {p:ByteArray} (h:za0 p=true):p.size≤200:=by
 unfold za0 at h;simp only [Bool.and_eq_true,decide_eq_true_eq] at h;exact h.1.1
theorem names_ne {p:ByteArray} (h:p.size≠0):names p≠[]:=by
 intro e;have :=zg0 p;rw [e] at this;simp only [List.map_nil,zj2] at this
 split at this
 ·next h1=>rw [ze8] at h1;exact h h1
 ·exact zx5 _ this.symm
theorem parent_right {p:ByteArray} (h:za0 p=true):parent p=zb5 p:=by rw [zw5,zb5,zc5 h]
theorem parent_names {p:ByteArray} (h:za0 p=true):names (zb5 p)=(names p).dropLast:=by
 rw [zb5,zc5 h];exact zk6 (fun t ht=>(zl9 h).1 t (List.dropLast_subset _ ht))
theorem zm6 {a b:ByteArray} (ha:za0 a=true) (hb:za0 b=true):ltP a b=za5 (names a) (names b):=by rw [ltP,ha,hb,zc5 ha,zc5 hb];rfl
theorem rise (L:List Nd):∀ (r:List Nd) (q:ByteArray),goS L (some q) r=true→∀m∈r,za5 (names q) (names m.path)=true:=by
 intro r
 induction r with
 |nil=>intro q _ m hm;cases hm
 |cons n r ih=>
  intro q h m hm;simp only [goS,Bool.and_eq_true] at h
  rcases List.mem_cons.1 hm with rfl |hm
  ·exact h.1.1.2
  ·exact zk7 _ _ _ h.1.1.2 (ih n.path h.2 m hm)
theorem find_app {α:Type} {f:α→Bool} (A B:List α):(A++B).find? f=match A.find? f with |some x=>some x|none=>B.find? f:=by
 rw [List.find?_append];cases A.find? f <;> rfl
theorem one_path {C:List Nd} (h:C.Pairwise (fun a b=>za5 (names a.path) (names b.path)=true)) {a b:Nd} (ha:a∈C) (hb:b∈C) (e:a.path=b.path):a=b:=by
 induction h with
 |nil=>cases ha
 |cons hx _ ih=>
  rcases List.mem_cons.1 ha with e1|h1
  ·rcases List.mem_cons.1 hb with e2|h2
   ·rw [e1,e2]
   ·have h3:=hx _ h2;rw [←e1,e,zo6] at h3;cases h3
  ·rcases List.mem_cons.1 hb with e2|h2
   ·have h3:=hx _ h1;rw [←e2,e,zo6] at h3;cases h3
   ·exact ih h1 h2
theorem go_same (L:List Nd):∀ (r C:List Nd) (prev:Option ByteArray) (last:ByteArray),L=C++r→(prev=none∧C=[]∧last=⟨#[]⟩∨prev=some last∧za0 last=true)→
  C.Pairwise (fun a b=>za5 (names a.path) (names b.path)=true)→(∀a∈C,a.path=last∨za5 (names a.path) (names last)=true)→goS L prev r=goI C last r:=by
 intro r
 induction r with
 |nil=>intros;rfl
 |cons n r ih=>
  intro C prev last hL hprev hC hlast;simp only [goS,goI];cases hn:zb1 n
  ·simp
  obtain ⟨hr,h0⟩:=zn5 hn
  have hlt:prevB prev n.path=ltP last n.path:=by
   rcases hprev with ⟨rfl,rfl,rfl⟩|⟨rfl,hl⟩
   ·have e1:za0 (⟨#[]⟩:ByteArray)=true:=(zh9 rfl).1;have e2:names (⟨#[]⟩:ByteArray)=[]:=(zh9 rfl).2;rw [zm6 e1 hr,e2];cases hx:names n.path with
    |nil=>exact absurd hx (names_ne h0)
    |cons a l=>rfl
   ·rw [zm6 hl hr];rfl
  rw [hlt];cases hlt2:ltP last n.path
  ·simp
  simp only [Bool.true_and,parent_right hr]
  have hall:∀a∈C,za5 (names a.path) (names n.path)=true:=by
   intro a ha
   rcases hprev with ⟨_,rfl,_⟩|⟨_,hl⟩
   ·cases ha
   ·rw [zm6 hl hr] at hlt2
    rcases hlast a ha with e|e
    ·rw [e];exact hlt2
    ·exact zk7 _ _ _ e hlt2
  have hC2:(C++[n]).Pairwise (fun a b=>za5 (names a.path) (names b.path)=true):=by
   rw [List.pairwise_append];exact ⟨hC,List.pairwise_singleton _ _,fun a ha b hb=>by simp at hb;subst hb;exact hall a ha⟩
  have hrest:goS L (some n.path) r=goI (C++[n]) n.path r:=by
   refine ih (C++[n]) (some n.path) n.path (by rw [hL];simp) (.inr ⟨rfl,hr⟩) hC2 ?_;intro a ha
   rcases List.mem_append.1 ha with ha|ha
   ·exact .inr (hall a ha)
   ·simp at ha;subst ha;exact .inl rfl
  by_cases hp:(zb5 n.path).size=0
  ·have e1:dirS L (zb5 n.path)=true:=by simp [dirS,hp]
   have e2:parI C n.path=true:=by simp [parI,hp]
   rw [e1,e2,hrest]
  cases hpar:parI C n.path
  ·have e1:(dirS L (zb5 n.path)&&goS L (some n.path) r)=false:=by
    rw [Bool.eq_false_iff];intro h;simp only [Bool.and_eq_true] at h;have hd:=h.1;simp only [dirS,hp,decide_false,Bool.false_or] at hd;rw [hL,find_app] at hd
    have hCn:C.find? (fun m=>decide (m.path=zb5 n.path))=none∨∃m,C.find? (fun m=>decide (m.path=zb5 n.path))=some m:=by
     cases C.find? (fun m=>decide (m.path=zb5 n.path)) with
     |none=>exact .inl rfl
     |some m=>exact .inr ⟨m,rfl⟩
    rcases hCn with hCn|⟨m,hm⟩
    ·rw [hCn] at hd;cases hf:(n::r).find? (fun m=>decide (m.path=zb5 n.path)) with
     |none=>rw [hf] at hd;simp at hd
     |some m=>
      have hm1:=List.mem_of_find?_eq_some hf;have hm2:m.path=zb5 n.path:=by simpa using List.find?_some hf
      have hless:za5 (names m.path) (names n.path)=true:=by
       rw [hm2,parent_names hr];exact less_drop _ (names_ne h0)
      rcases List.mem_cons.1 hm1 with rfl |hm1
      ·rw [zo6] at hless;cases hless
      ·have h3:=rise L r n.path h.2 m hm1;have h4:=zk7 _ _ _ hless h3;rw [zo6] at h4;cases h4
    ·rw [hm] at hd;have hm1:=List.mem_of_find?_eq_some hm;have hm2:m.path=zb5 n.path:=by simpa using List.find?_some hm
     have :parI C n.path=true:=by
      simp only [parI,Bool.or_eq_true,List.any_eq_true];exact .inr ⟨m,hm1,by simpa [hm2] using hd⟩
     rw [hpar] at this;cases this
   rw [e1];simp
  ·have e1:dirS L (zb5 n.path)=true:=by
    simp only [parI,hp,decide_false,Bool.false_or,List.any_eq_true,Bool.and_eq_true,decide_eq_true_eq] at hpar;obtain ⟨m,hm,hm2,hm3⟩:=hpar
    have hfind:C.find? (fun m=>decide (m.path=zb5 n.path))=some m:=by
     cases hf:C.find? (fun m=>decide (m.path=zb5 n.path)) with
     |none=>
      have :=List.find?_eq_none.1 hf m hm;simp [hm2] at this
     |some x=>
      have hx1:=List.mem_of_find?_eq_some hf;have hx2:x.path=zb5 n.path:=by simpa using List.find?_some hf
      rw [one_path hC hx1 hm (hx2.trans hm2.symm)]
    simp only [dirS,hp,decide_false,Bool.false_or];rw [hL,find_app,hfind]
    simpa using hm3
   rw [e1,hrest]
theorem tree_same (L:List Nd):goS L none L=goI [] ⟨#[]⟩ L:=
 go_same L L [] none ⟨#[]⟩ rfl (.inl ⟨rfl,rfl,rfl⟩) List.Pairwise.nil (fun a ha=>by cases ha)
theorem goI_all:∀ (r C:List Nd) (last:ByteArray),goI C last r=true→∀n∈r,zb1 n=true:=by
 intro r
 induction r with
 |nil=>intro C last _ n hn;cases hn
 |cons m r ih=>
  intro C last h n hn;simp only [goI,Bool.and_eq_true] at h
  rcases List.mem_cons.1 hn with rfl |hn
  ·exact h.1.1.1
  ·exact ih _ _ h.2 n hn
theorem goI_rise:∀ (r C:List Nd) (last:ByteArray),goI C last r=true→za0 last=true→r.Pairwise (fun a b=>za5 (names a.path) (names b.path)=true)∧∀n∈r,za5 (names last) (names n.path)=true:=by
 intro r
 induction r with
 |nil=>intro C last _ _;exact ⟨List.Pairwise.nil,fun n hn=>by cases hn⟩
 |cons m r ih=>
  intro C last h hl;simp only [goI,Bool.and_eq_true] at h;obtain ⟨hr,h0⟩:=zn5 h.1.1.1;obtain ⟨i1,i2⟩:=ih _ _ h.2 hr;have h1:=h.1.1.2;rw [zm6 hl hr] at h1;refine ⟨List.Pairwise.cons (fun n hn=>i2 n hn) i1,fun n hn=>?_⟩
  rcases List.mem_cons.1 hn with rfl |hn
  ·exact h1
  ·exact zk7 _ _ _ h1 (i2 n hn)
end Pl
end
end Go.Proofs.YtgdjjncmocppeaaGreatDoor
