/- Several texts of one claim in one file: Plain, PlainPath, PlainNode, Kit, PlainGlue, PlainPar, PlainR, PlainLess, PlainTree, PlainNest, PlainItem, PlainFx, PlainNestX, PlainSight, PlainLaw, PlainPick. -/
import Derived.WalkKit
namespace Go.Proofs.YtbomeifgfalmdaaGreatDoor
section
namespace Pl

def encF:Nat→Nat→List UInt8
 |0,u=>[UInt8.ofNat u]
 |f+1,u=>if u<128 then [UInt8.ofNat u] else UInt8.ofNat (u % 128+128)::encF f (u / 128)
def enc (u:Nat):List UInt8:=encF u u
theorem encF_same (n:Nat):∀u f g,u≤n→u≤f→u≤g→encF f u=encF g u:=by
 induction n with
 |zero=>
  intro u f g hu _ _;obtain rfl:u=0:=by omega
  cases f <;> cases g <;> simp [encF]
 |succ n ih=>
  intro u f g hu hf hg;by_cases h:u<128
  ·cases f <;> cases g <;> simp [encF,h]
  ·obtain ⟨f,rfl⟩:∃f',f=f'+1:=⟨f - 1,by omega⟩;obtain ⟨g,rfl⟩:∃g',g=g'+1:=⟨g - 1,by omega⟩;rw [encF,encF,if_neg h,if_neg h,ih (u / 128) f g (by omega) (by omega) (by omega)]

theorem enc_small {u:Nat} (h:u<128):enc u=[UInt8.ofNat u]:=by
 unfold enc;cases u with
 |zero=>rfl
 |succ u=>rw [encF,if_pos h]
theorem enc_big {u:Nat} (h:128≤u):enc u=UInt8.ofNat (u % 128+128)::enc (u / 128):=by
 obtain ⟨f,hf⟩:∃f,u=f+1:=⟨u - 1,by omega⟩
 have e:encF u u=UInt8.ofNat (u % 128+128)::encF f (u / 128):=by
  rw [show encF u u=encF (f+1) u by rw [←hf],encF,if_neg (Nat.not_lt.2 h)]
 unfold enc;rw [e,encF_same f (u / 128) f (u / 128) (by omega) (by omega) (Nat.le_refl _)]

def zn9 (u:Nat):Nat→List UInt8
 |0=>[]
 |k+1=>zn9 u k++[UInt8.ofNat (u / 128 ^ k % 128+128)]
theorem zi4 (u k:Nat):(zn9 u k).length=k:=by
 induction k with
 |zero=>rfl
 |succ k ih=>simp [zn9,ih]
theorem enc_split (u k:Nat) (h:∀j,j<k→128≤u / 128 ^ j):enc u=zn9 u k++enc (u / 128 ^ k):=by
 induction k with
 |zero=>simp [zn9]
 |succ k ih=>
  rw [ih (fun j hj=>h j (by omega)),enc_big (h k (by omega)),zn9,Nat.div_div_eq_div_mul,Nat.pow_succ];simp

structure zp7 (u k X:Nat) (C:Array Value):Prop where
 rest:X=u / 128 ^ k
 big:∀j,j<k→128≤u / 128 ^ j
 cell:∀j,j<k→C[j]? =some (.int .u8 ((u / 128 ^ j % 128+128:Nat):Int))
theorem zp7.start (u:Nat) (C:Array Value):zp7 u 0 u C:=⟨by simp,fun _ h=>absurd h (by omega),fun _ h=>absurd h (by omega)⟩
theorem lt_nine {u k X:Nat} (h3:X=u / 128 ^ k) (hX:128≤X) (hu:u<18446744073709551616):k<9:=by
 rcases Nat.lt_or_ge k 9 with h9|h9
 ·exact h9
 ·have h1:128 ^ 9≤128 ^ k:=Nat.pow_le_pow_right (by omega) h9;have h2:u / 128 ^ k≤u / 128 ^ 9:=Nat.div_le_div_left h1 (by decide);have h4:u / 128 ^ 9<2:=by omega
  omega
theorem zp7.lt {u k X:Nat} {C:Array Value} (h:zp7 u k X C) (hX:128≤X) (hu:u<18446744073709551616):k<9:=lt_nine h.rest hX hu
theorem zp7.step {u k X:Nat} {C:Array Value} (h:zp7 u k X C) (hX:128≤X) (hk:k<C.size):
  zp7 u (k+1) (X / 128) (C.setIfInBounds k (.int .u8 ((X % 128+128:Nat):Int))):=by
 refine ⟨?_,?_,?_⟩
 ·rw [h.rest,Nat.div_div_eq_div_mul,Nat.pow_succ]
 ·intro j hj
  rcases Nat.lt_succ_iff_lt_or_eq.1 hj with h'|rfl
  ·exact h.big j h'
  ·rw [←h.rest];exact hX
 ·intro j hj
  rcases Nat.lt_succ_iff_lt_or_eq.1 hj with h'|rfl
  ·rw [Array.getElem?_setIfInBounds_ne (by omega)];exact h.cell j h'
  ·rw [Array.getElem?_setIfInBounds_self_of_lt hk,h.rest]

theorem encTo_get (u k j:Nat) (h:j<k):(zn9 u k)[j]? =some (UInt8.ofNat (u / 128 ^ j % 128+128)):=by
 induction k with
 |zero=>omega
 |succ k ih=>
  rw [zn9]
  rcases Nat.lt_succ_iff_lt_or_eq.1 h with h'|rfl
  ·rw [List.getElem?_append_left (by rw [zi4];exact h')];exact ih h'
  ·rw [List.getElem?_append_right (by rw [zi4];exact Nat.le_refl _),zi4];simp
theorem zp7.enc {u k X:Nat} {C:Array Value} (h:zp7 u k X C) (hX:X<128):enc u=zn9 u k++[UInt8.ofNat X]:=by
 rw [enc_split u k h.big,←h.rest,enc_small hX]
theorem zp7.length {u k X:Nat} {C:Array Value} (h:zp7 u k X C) (hX:X<128):(Pl.enc u).length=k+1:=by
 rw [h.enc hX];simp [zi4]
theorem zp7.bytes {u k X:Nat} {C:Array Value} (h:zp7 u k X C) (hX:X<128) (hk:k<C.size) (j:Nat) (hj:j<(Pl.enc u).length):
  (C.setIfInBounds k (.int .u8 (X:Int)))[j]? =some (.int .u8 ((Pl.enc u)[j].toNat:Int)):=by
 have hl:=h.length hX;have hg:(Pl.enc u)[j]? =some (Pl.enc u)[j]:=List.getElem?_eq_getElem hj;generalize (Pl.enc u)[j]=b at hg ⊢;rw [h.enc hX] at hg
 rcases Nat.lt_or_ge j k with hjk|hjk
 ·rw [List.getElem?_append_left (by rw [zi4];exact hjk),encTo_get u k j hjk] at hg;have hg:=(Option.some.inj hg).symm;rw [Array.getElem?_setIfInBounds_ne (by omega),h.cell j hjk];subst hg;simp [UInt8.toNat_ofNat']
  omega
 ·obtain rfl:j=k:=by omega
  rw [List.getElem?_append_right (by rw [zi4];exact Nat.le_refl _),zi4] at hg;have hg:UInt8.ofNat X=b:=by simpa using hg
  rw [Array.getElem?_setIfInBounds_self_of_lt hk];subst hg;simp [UInt8.toNat_ofNat']
  omega

def zf (b:UInt8):Value:= .int .u8 (b.toNat:Int)
structure zm0 (u k X:Nat):Prop where
 rest:X=u / 128 ^ k
 big:∀j,j<k→128≤u / 128 ^ j
theorem zm0.start (u:Nat):zm0 u 0 u:=⟨by simp,fun _ h=>absurd h (by omega)⟩
theorem zm0.lt {u k X:Nat} (h:zm0 u k X) (hX:128≤X) (hu:u<18446744073709551616):k<9:=lt_nine h.rest hX hu
theorem zm0.step {u k X:Nat} (h:zm0 u k X) (hX:128≤X):zm0 u (k+1) (X / 128):=by
 refine ⟨?_,?_⟩
 ·rw [h.rest,Nat.div_div_eq_div_mul,Nat.pow_succ]
 ·intro j hj
  rcases Nat.lt_succ_iff_lt_or_eq.1 hj with h'|rfl
  ·exact h.big j h'
  ·rw [←h.rest];exact hX
theorem zm0.enc {u k X:Nat} (h:zm0 u k X) (hX:X<128):Pl.enc u=zn9 u k++[UInt8.ofNat X]:=by
 rw [enc_split u k h.big,←h.rest,enc_small hX]
theorem zm0.cells {u k X:Nat} (h:zm0 u k X):(zn9 u k).map zf++[.int .u8 ((X:Int) % 128+128)]=(zn9 u (k+1)).map zf:=by
 rw [zn9,List.map_append,←h.rest]
 congr 1
 simp [zf,UInt8.toNat_ofNat']
 omega
theorem zm0.last {u k X:Nat} (h:zm0 u k X) (hX:X<128):(zn9 u k).map zf++[.int .u8 (X:Int)]=(Pl.enc u).map zf:=by
 rw [h.enc hX,List.map_append]
 congr 1
 simp [zf,UInt8.toNat_ofNat']
 omega
theorem zm0.length {u k X:Nat} (h:zm0 u k X) (hX:X<128):(Pl.enc u).length=k+1:=by rw [h.enc hX];simp [zi4]

def tot (ts:List ByteArray):Nat:=(ts.map ByteArray.size).sum
def cat (ts:List ByteArray):List UInt8:=(ts.map fun t=>t.data.toList).flatten
theorem ya6 (ts:List ByteArray):(cat ts).length=tot ts:=by
 induction ts with
 |nil=>rfl
 |cons t ts ih=>
  have h1:(cat (t::ts)).length=t.data.toList.length+(cat ts).length:=by simp [cat]
  have h2:tot (t::ts)=t.size+tot ts:=by simp [tot]
  rw [h1,h2,ih];rfl
theorem tot_snoc (ts:List ByteArray) (k:Nat) (t:ByteArray) (h:ts[k]? =some t):tot (ts.take (k+1))=tot (ts.take k)+t.size:=by
 rw [List.take_add_one,h];simp [tot]
theorem cat_snoc (ts:List ByteArray) (k:Nat) (t:ByteArray) (h:ts[k]? =some t):cat (ts.take (k+1))=cat (ts.take k)++t.data.toList:=by
 rw [List.take_add_one,h];simp [cat]
theorem tot_le (ts:List ByteArray) (k:Nat):tot (ts.take k)≤tot ts:=by
 have h:tot ts=tot (ts.take k)+tot (ts.drop k):=by
  have e:∀a b:List ByteArray,tot (a++b)=tot a+tot b:=fun a b=>by simp [tot]
  have :=e (ts.take k) (ts.drop k)
  rwa [List.take_append_drop] at this
 omega
theorem cat_one (a:ByteArray):cat [a]=a.data.toList:=by simp [cat]
theorem tot_one (a:ByteArray):tot [a]=a.size:=by simp [tot]
theorem yk1 (a:List UInt8) (s:ByteArray):(⟨a.toArray⟩:ByteArray)++s=⟨(a++s.data.toList).toArray⟩:=by
 apply ByteArray.ext
 simp
theorem part_step {ts:List ByteArray} {k:Nat} {t:ByteArray} {cur:Array Value} (h:ts[k]? =some t)
  (hp:cur.toList.take (tot (ts.take k))=(cat (ts.take k)).map zf):
  (cur.toList.take (tot (ts.take k))++t.data.toList.map zf++cur.toList.drop (tot (ts.take k)+t.size)).toArray.toList.take (tot (ts.take (k+1)))=(cat (ts.take (k+1))).map zf:=by
 have hl:(cat (ts.take (k+1))).length=tot (ts.take (k+1)):=ya6 _;rw [hp,←List.map_append,←cat_snoc ts k t h,List.take_append_of_le_length (by rw [List.length_map,hl];exact Nat.le_refl _),List.take_of_length_le (by rw [List.length_map,hl];exact Nat.le_refl _)]

def four (n:Nat):List UInt8:=[UInt8.ofNat n,UInt8.ofNat (n / 256),UInt8.ofNat (n / 65536),UInt8.ofNat (n / 16777216)]
theorem take_snoc (s:ByteArray) (k:Nat) (h:k<s.size):s.data.toList.take (k+1)=s.data.toList.take k++[s[k]]:=by
 rw [List.take_succ_eq_append_getElem (by simpa using h)];rfl

abbrev okAt (j n:Nat):Prop:=(97≤n∧n≤122)∨(j≠0∧((48≤n∧n≤57)∨n=95))
def zb8 (s:ByteArray):Bool:=decide (1≤s.size∧s.size≤20∧∀j,j<s.size→okAt j ((s.data.toList.getD j 0).toNat))
theorem zo8 (s:ByteArray) (k:Nat) (h:k<s.size):s.data.toList.getD k 0=s[k]:=by
 have h':k<s.data.size:=h;simp only [List.getD,Array.getElem?_toList];rw [Array.getElem?_eq_getElem h'];rfl
theorem yg4 {s:ByteArray} (h:s.size<1):zb8 s=false:=decide_eq_false (by omega)
theorem yc {s:ByteArray} (h:20<s.size):zb8 s=false:=decide_eq_false (by omega)
theorem zu7 {s:ByteArray} (k:Nat) (h:k<s.size) (hb:¬okAt k s[k].toNat):zb8 s=false:=
 decide_eq_false (fun ⟨_,_,ha⟩=>hb (by have :=ha k h;rwa [zo8 s k h] at this))
theorem yi9 {s:ByteArray} (h1:¬s.size<1) (h2:¬20<s.size) (h:∀j,j<s.size→okAt j ((s.data.toList.getD j 0).toNat)):zb8 s=true:=
 decide_eq_true ⟨by omega,by omega,h⟩
theorem zz9 {s:ByteArray} {k:Nat} (h:∀j,j<k→okAt j ((s.data.toList.getD j 0).toNat)) (hk:k<s.size) (ho:okAt k s[k].toNat):
  ∀j,j<k+1→okAt j ((s.data.toList.getD j 0).toNat):=by
 intro j hj
 rcases Nat.lt_succ_iff_lt_or_eq.1 hj with h'|rfl
 ·exact h j h'
 ·rw [zo8 s j hk];exact ho

theorem kinds (n:Int):(97≤n∧n≤122)∨(¬97≤n∧48≤n∧n≤57∧(n !=95)=true)∨(¬97≤n∧48≤n∧¬n≤57∧(n !=95)=true)∨
  (¬97≤n∧48≤n∧¬n≤57∧(n !=95)=false)∨(¬97≤n∧¬48≤n∧(n !=95)=true)∨(97≤n∧¬n≤122∧48≤n∧¬n≤57∧(n !=95)=true):=by
 simp only [bne_iff_ne,ne_eq,bne_eq_false_iff_eq];omega

end Pl
end
section
namespace Pl
def cutF (s:ByteArray) (b:Nat):Nat→Nat→Nat→List ByteArray
 |0,from_,_=>[s.extract from_ s.size]
 |f+1,from_,k=>if (s.data.toList.getD k 0).toNat=b then s.extract from_ k::cutF s b f (k+1) (k+1) else cutF s b f from_ (k+1)
def cut (s:ByteArray) (b:Nat):List ByteArray:=cutF s b s.size 0 0
theorem cutF_hit {s:ByteArray} {b f from_ k:Nat} (h:k<s.size) (hb:s[k].toNat=b):cutF s b (f+1) from_ k=s.extract from_ k::cutF s b f (k+1) (k+1):=by
 rw [cutF,zo8 s k h,if_pos hb]
theorem yf7 {s:ByteArray} {b f from_ k:Nat} (h:k<s.size) (hb:s[k].toNat≠b):cutF s b (f+1) from_ k=cutF s b f from_ (k+1):=by
 rw [cutF,zo8 s k h,if_neg hb]
def names (s:ByteArray):List ByteArray:=if s.size=0 then [] else cut s 47
def za0 (s:ByteArray):Bool:=decide (s.size≤200)&&(names s).all zb8&&decide ((names s).length≤6)
theorem zp6 {s:ByteArray} (h:200<s.size):za0 s=false:=by simp [za0];omega
theorem pathB_bad {s:ByteArray} {k:Nat} {t:ByteArray} (h:(names s)[k]? =some t) (hb:zb8 t=false):za0 s=false:=by
 have hm:t∈names s:=List.mem_of_getElem? h
 have :(names s).all zb8=false:=by
  rw [List.all_eq_false];exact ⟨t,hm,by simp [hb]⟩
 simp [za0,this]
theorem pathB_good {s:ByteArray} (h:s.size≤200) (ha:∀ (j:Nat) t,(names s)[j]? =some t→zb8 t=true):za0 s=decide ((names s).length≤6):=by
 have :(names s).all zb8=true:=by
  rw [List.all_eq_true];intro t ht;obtain ⟨j,hj⟩:=List.mem_iff_getElem?.1 ht;exact ha j t hj
 simp [za0,this,h]
theorem yh0 (s:ByteArray) (b:Nat):∀f fr k,(cutF s b f fr k).length≤f+1:=by
 intro f
 induction f with
 |zero=>intro fr k;simp [cutF]
 |succ f ih=>
  intro fr k;rw [cutF]
  split
  ·have :=ih (k+1) (k+1);simp;omega
  ·have :=ih fr (k+1);omega
theorem zx7 (s:ByteArray):(names s).length≤s.size+1:=by
 unfold names
 split
 ·simp
 ·exact yh0 s 47 s.size 0 0
theorem cutF_size (s:ByteArray) (b:Nat):∀f fr k t,t∈cutF s b f fr k→t.size≤s.size:=by
 intro f
 induction f with
 |zero=>intro fr k t ht;simp [cutF] at ht;subst ht;simp
 |succ f ih=>
  intro fr k t ht;rw [cutF] at ht
  split at ht
  ·rcases List.mem_cons.1 ht with rfl |ht
   ·simp;omega
   ·exact ih _ _ t ht
  ·exact ih _ _ t ht
theorem names_size {s:ByteArray} {k:Nat} {t:ByteArray} (h:(names s)[k]? =some t):t.size≤s.size:=by
 have hm:t∈names s:=List.mem_of_getElem? h;unfold names at hm
 split at hm
 ·simp at hm
 ·exact cutF_size s 47 _ _ _ t hm
def zd5 (s:ByteArray):Nat→Int
 |0=> -1
 |k+1=>if (s.data.toList.getD k 0).toNat=47 then (k:Int) else zd5 s k
theorem slash_hit {s:ByteArray} {k:Nat} (h:k<s.size) (hb:s[k].toNat=47):zd5 s (k+1)=(k:Int):=by
 rw [zd5,zo8 s k h,if_pos hb]
theorem yk8 {s:ByteArray} {k:Nat} (h:k<s.size) (hb:s[k].toNat≠47):zd5 s (k+1)=zd5 s k:=by
 rw [zd5,zo8 s k h,if_neg hb]
theorem slash_lt (s:ByteArray) (k:Nat): -1≤zd5 s k∧zd5 s k<(k:Int):=by
 induction k with
 |zero=>simp [zd5]
 |succ k ih=>
  rw [zd5]
  split <;> omega
def parent (s:ByteArray):ByteArray:=if zd5 s s.size<0 then ⟨#[]⟩ else s.extract 0 (zd5 s s.size).toNat
end Pl
end
section
namespace Pl
structure Nd where
 path:ByteArray
 kind:Int
 data:ByteArray
 time:Int
 mark:Int
def Nd.cells (n:Nd):List Value:=[.string n.path, .int .i64 n.kind, .string n.data, .int .i64 n.time, .int .i64 n.mark]
def Nd.val (n:Nd):Value:= .agg #[.string n.path, .int .i64 n.kind, .string n.data, .int .i64 n.time, .int .i64 n.mark]
def zj0 (n:Nd):Bool:=
 if n.kind=0 then decide (n.data.size=0)&&decide (n.time=0)&&decide (1≤n.mark)
 else if n.kind=1 then decide (n.data.size=0)
 else if n.kind=2 then decide (n.mark=0) else false
def zb6 (n:Nd):Bool:=decide (n.path.size≠0)&&za0 n.path&&decide (n.data.size≤60)&&decide (0≤n.time∧n.time≤1000000)&&decide (0≤n.mark∧n.mark≤8)&&zj0 n
theorem yf2 {n:Nd} (h:n.path.size=0):zb6 n=false:=by simp [zb6,h]
theorem node_path {n:Nd} (h:za0 n.path=false):zb6 n=false:=by simp [zb6,h]
theorem node_data {n:Nd} (h:60<n.data.size):zb6 n=false:=by
 have :decide (n.data.size≤60)=false:=by simp;omega
 simp [zb6,this]
theorem node_time {n:Nd} (h:¬ (0≤n.time∧n.time≤1000000)):zb6 n=false:=by
 have :decide (0≤n.time∧n.time≤1000000)=false:=by simpa using h
 unfold zb6;rw [this];simp
theorem node_mark {n:Nd} (h:¬ (0≤n.mark∧n.mark≤8)):zb6 n=false:=by
 have :decide (0≤n.mark∧n.mark≤8)=false:=by simpa using h
 unfold zb6;rw [this];simp
theorem node_kind {n:Nd} (h0:n.path.size≠0) (h1:za0 n.path=true) (h2:n.data.size≤60) (h3:0≤n.time∧n.time≤1000000) (h4:0≤n.mark∧n.mark≤8):zb6 n=zj0 n:=by
 have e3:decide (0≤n.time∧n.time≤1000000)=true:=by simpa using h3
 have e4:decide (0≤n.mark∧n.mark≤8)=true:=by simpa using h4
 unfold zb6;rw [e3,e4];simp [h0,h1,h2]
def zq1 (n:Nd):Bool:=decide (n.data.size≤60)&&decide (0≤n.time∧n.time≤1000000)&&decide (0≤n.mark∧n.mark≤8)&&zj0 n
theorem cont_data {n:Nd} (h:60<n.data.size):zq1 n=false:=by
 have :decide (n.data.size≤60)=false:=by simp;omega
 simp [zq1,this]
theorem cont_time {n:Nd} (h:¬ (0≤n.time∧n.time≤1000000)):zq1 n=false:=by
 have :decide (0≤n.time∧n.time≤1000000)=false:=by simpa using h
 unfold zq1;rw [this];simp
theorem cont_mark {n:Nd} (h:¬ (0≤n.mark∧n.mark≤8)):zq1 n=false:=by
 have :decide (0≤n.mark∧n.mark≤8)=false:=by simpa using h
 unfold zq1;rw [this];simp
theorem cont_kind {n:Nd} (h2:n.data.size≤60) (h3:0≤n.time∧n.time≤1000000) (h4:0≤n.mark∧n.mark≤8):zq1 n=zj0 n:=by
 have e3:decide (0≤n.time∧n.time≤1000000)=true:=by simpa using h3
 have e4:decide (0≤n.mark∧n.mark≤8)=true:=by simpa using h4
 unfold zq1;rw [e3,e4];simp [h2]
theorem node_cont {n:Nd} (h0:n.path.size≠0) (h1:za0 n.path=true):zb6 n=zq1 n:=by
 unfold zb6 zq1;simp [h0,h1,Bool.and_assoc]
end Pl
end
section
open Go.RowKit
theorem hide {p:Prop} (h:p):Hid p:=h
theorem za {p:Prop} (h:Hid p):p:=h
theorem za1 {a b:Bool} (h:a=b):Ending.returned (.bool a)= .returned (.bool b):=by rw [h]
theorem zq2 {a b:ByteArray} (h:a=b):Ending.returned (.string a)= .returned (.string b):=by rw [h]
theorem zv7 {x:Int} (h:(Lit.int .i64 x).wf=true): -9223372036854775808≤x∧x≤9223372036854775807:=by
 simp [Lit.wf,IntKind.min,IntKind.max,IntKind.signed,IntKind.bits] at h
 omega
/- Short names for what the walks' simp calls name over and over. -/
theorem kA0 {α : Type _} {xs : List α} {i : Nat} : xs.toArray[i]? = xs[i]? := List.getElem?_toArray
theorem kA1 {α : Type _} {a : α} {l : List α} : (a :: l)[0]? = some a := List.getElem?_cons_zero
theorem kA2 {α : Type _} {a : α} {l : List α} {i : Nat} : (a :: l)[i + 1]? = l[i]? := List.getElem?_cons_succ
theorem kB0 {α : Type _} {xs : List α} {i : Nat} (h : i < xs.toArray.size) : xs.toArray[i] = xs[i]'(by simpa using h) := List.getElem_toArray h
theorem kB1 {α : Type _} {a : α} {as' : List α} (h : 0 < (a :: as').length) : (a :: as')[0] = a := List.getElem_cons_zero a as' h
theorem kB2 {α : Type _} {a : α} {as' : List α} {i : Nat} (h : i + 1 < (a :: as').length) : (a :: as')[i + 1] = as'[i]'(by simpa using h) := List.getElem_cons_succ a as' i h
theorem kB3 {α : Type _} (l : List α) (i : Nat) (a : α) : l.toArray.setIfInBounds i a = (l.set i a).toArray := List.setIfInBounds_toArray l i a
theorem kB4 {α : Type _} {x : α} {xs : List α} {a : α} : (x :: xs).set 0 a = a :: xs := List.set_cons_zero
theorem kB5 {α : Type _} {x : α} {xs : List α} {n : Nat} {a : α} : (x :: xs).set (n + 1) a = x :: xs.set n a := List.set_cons_succ
end
section
namespace Pl
def by_ (t:ByteArray):List UInt8:=t.data.toList
theorem ze4 {a b:ByteArray} (h:by_ a=by_ b):a=b:=by
 apply ByteArray.ext;exact Array.toList_inj.1 h
theorem zc8 (t:ByteArray):(by_ t).length=t.size:=Array.length_toList
theorem zm6 (t:ByteArray) (a b:Nat):by_ (t.extract a b)=((by_ t).drop a).take (b - a):=by
 simp [by_,ByteArray.data_extract,Array.toList_extract,List.extract]
theorem by_mk (l:List UInt8):by_ ⟨l.toArray⟩=l:=by simp [by_]
def cutL:List UInt8→List (List UInt8)
 | []=>[[]]
 |b::l=>if b=47 then []::cutL l else match cutL l with | []=>[[b]]|h::t=>(b::h)::t
def zf7:List (List UInt8)→List UInt8
 | []=>[]
 | [a]=>a
 |a::b::r=>a++47::zf7 (b::r)
theorem cutL_ex (l:List UInt8):∃h t,cutL l=h::t:=by
 induction l with
 |nil=>exact ⟨_,_,rfl⟩
 |cons b l ih=>
  obtain ⟨h,t,e⟩:=ih;rw [cutL]
  split
  ·exact ⟨_,_,rfl⟩
  ·rw [e];exact ⟨_,_,rfl⟩
theorem ya5 (l:List UInt8):cutL l≠[]:=by obtain ⟨h,t,e⟩:=cutL_ex l;rw [e];exact List.cons_ne_nil _ _
theorem zx2 (l:List UInt8):cutL (47::l)=[]::cutL l:=by rw [cutL,if_pos rfl]
theorem zv3 {b:UInt8} {l h:List UInt8} {t:List (List UInt8)} (hb:b≠47) (e:cutL l=h::t):cutL (b::l)=(b::h)::t:=by
 rw [cutL,if_neg hb,e]
theorem zs6 (a:List UInt8) {L:List (List UInt8)} (h:L≠[]):zf7 (a::L)=a++47::zf7 L:=by
 cases L with
 |nil=>exact absurd rfl h
 |cons b r=>rw [zf7]
theorem glueL_push (b:UInt8) (h:List UInt8) (t:List (List UInt8)):zf7 ((b::h)::t)=b::zf7 (h::t):=by
 cases t with
 |nil=>simp [zf7]
 |cons c r=>simp [zf7]
theorem yf1 (l:List UInt8):zf7 (cutL l)=l:=by
 induction l with
 |nil=>rfl
 |cons b l ih=>
  by_cases hb:b=47
  ·subst hb;rw [zx2,zs6 _ (ya5 l),ih];rfl
  ·obtain ⟨h,t,e⟩:=cutL_ex l;rw [zv3 hb e,glueL_push,←e,ih]
theorem yg9 (a b:List UInt8):cutL (a++47::b)=cutL a++cutL b:=by
 induction a with
 |nil=>rw [List.nil_append,zx2];rfl
 |cons c a ih=>
  by_cases hc:c=47
  ·subst hc;rw [List.cons_append,zx2,ih,zx2];rfl
  ·obtain ⟨h,t,e⟩:=cutL_ex a;rw [List.cons_append,zv3 hc e,zv3 (t:=t++cutL b) hc (by rw [ih,e];rfl)];rfl
theorem zu4 {a:List UInt8} (h:(47:UInt8)∉a):cutL a=[a]:=by
 induction a with
 |nil=>rfl
 |cons c a ih=>
  rw [List.mem_cons,not_or] at h;rw [zv3 (fun e=>h.1 e.symm) (ih h.2)]
theorem cut_glueL {L:List (List UInt8)} (h0:L≠[]) (h:∀t∈L,(47:UInt8)∉t):cutL (zf7 L)=L:=by
 induction L with
 |nil=>exact absurd rfl h0
 |cons a L ih=>
  by_cases hL:L=[]
  ·subst hL;exact zu4 (h a List.mem_cons_self)
  ·rw [zs6 a hL,yg9,zu4 (h a List.mem_cons_self),ih hL (fun t ht=>h t (List.mem_cons_of_mem _ ht))];rfl
theorem zs7 {A B:List (List UInt8)} (hA:A≠[]) (hB:B≠[]):zf7 (A++B)=zf7 A++47::zf7 B:=by
 induction A with
 |nil=>exact absurd rfl hA
 |cons a A ih=>
  by_cases h:A=[]
  ·subst h;exact zs6 a hB
  ·rw [List.cons_append,zs6 a (by simp [h]),ih h,zs6 a h];simp

theorem cutF_list (s:ByteArray):∀f fr k,f+k=s.size→fr≤k→∃h t,cutL ((by_ s).drop k)=h::t∧(cutF s 47 f fr k).map by_=(((by_ s).drop fr).take (k - fr)++h)::t:=by
 intro f
 induction f with
 |zero=>
  intro fr k hk hfr;refine ⟨[],[],?_,?_⟩
  ·rw [List.drop_of_length_le (by rw [zc8];omega)];rfl
  ·rw [cutF,List.map_cons,List.map_nil,zm6,List.append_nil];obtain rfl:k=s.size:=by omega
   rfl
 |succ f ih=>
  intro fr k hk hfr;have hlt:k<s.size:=by omega
  have hlt':k<(by_ s).length:=by rw [zc8];exact hlt
  have hd:(by_ s).drop k=s[k]::(by_ s).drop (k+1):=by
   rw [List.drop_eq_getElem_cons hlt'];rfl
  by_cases hb:s[k].toNat=47
  ·obtain ⟨h,t,e1,e2⟩:=ih (k+1) (k+1) (by omega) (Nat.le_refl _);have hb':s[k]=47:=UInt8.toNat_inj.1 hb;refine ⟨[],cutL ((by_ s).drop (k+1)),?_,?_⟩
   ·rw [hd,hb',zx2]
   ·rw [cutF_hit hlt hb,List.map_cons,e2,zm6,e1];simp
  ·obtain ⟨h,t,e1,e2⟩:=ih fr (k+1) (by omega) (by omega);have hb':s[k]≠47:=fun e=>hb (by rw [e];rfl);refine ⟨s[k]::h,t,?_,?_⟩
   ·rw [hd,zv3 hb' e1]
   ·rw [yf7 hlt hb,e2]
    congr 1
    have :k+1 - fr=(k - fr)+1:=by omega
    rw [this,List.take_add_one,List.getElem?_drop,Nat.add_sub_cancel' hfr,List.getElem?_eq_getElem hlt'];simp [by_]
    rfl
theorem cut_list (s:ByteArray):(cut s 47).map by_=cutL (by_ s):=by
 obtain ⟨h,t,e1,e2⟩:=cutF_list s s.size 0 0 (by omega) (Nat.le_refl _);rw [cut,e2];rw [List.drop_zero] at e1;rw [e1];simp
def zj7 (l:List UInt8):List (List UInt8):=if l=[] then [] else cutL l
theorem zf5 {s:ByteArray}:by_ s=[]↔s.size=0:=by rw [←zc8,List.length_eq_zero_iff]
theorem zg1 (s:ByteArray):(names s).map by_=zj7 (by_ s):=by
 unfold names zj7;by_cases h:s.size=0
 ·rw [if_pos h,if_pos (zf5.2 h)];rfl
 ·rw [if_neg h,if_neg (fun e=>h (zf5.1 e)),cut_list]
theorem zn5 (l:List UInt8):zf7 (zj7 l)=l:=by
 unfold zj7;split
 ·subst_vars;rfl
 ·exact yf1 l
def glue (ts:List ByteArray):ByteArray:=⟨(zf7 (ts.map by_)).toArray⟩
theorem zl7 (ts:List ByteArray):by_ (glue ts)=zf7 (ts.map by_):=by_mk _
theorem yj5 {A B:List ByteArray} (h:A.map by_=B.map by_):A=B:=by
 induction A generalizing B with
 |nil=>cases B with
  |nil=>rfl
  |cons=>simp at h
 |cons a A ih=>cases B with
  |nil=>simp at h
  |cons b B=>simp at h;rw [ze4 h.1,ih h.2]
theorem zj2 (s:ByteArray):glue (names s)=s:=by
 apply ze4;rw [zl7,zg1,zn5]
theorem zo6 {t:ByteArray} (h:zb8 t=true):(47:UInt8)∉by_ t∧by_ t≠[]∧1≤t.size∧t.size≤20:=by
 have h':=of_decide_eq_true h;refine ⟨fun hm=>?_,fun e=>?_,h'.1,h'.2.1⟩
 ·obtain ⟨j,hj,e⟩:=List.getElem_of_mem hm;have hj':j<t.size:=by rw [←zc8];exact hj
  have ho:=h'.2.2 j hj'
  have e2:t.data.toList.getD j 0=47:=by
   rw [zo8 t j hj'];exact e
  rw [e2] at ho;simp [okAt] at ho
 ·have :=zf5.1 e;omega
theorem zn0 {L:List ByteArray} (h:∀t∈L,zb8 t=true):names (glue L)=L:=by
 apply yj5
 rw [zg1,zl7];cases L with
 |nil=>rfl
 |cons a L=>
  have hne:zf7 ((a::L).map by_)≠[]:=by
   have ha:=(zo6 (h a List.mem_cons_self)).2.1;cases L with
   |nil=>exact ha
   |cons b L=>simp [zf7]
  rw [zj7,if_neg hne]
  apply cut_glueL (by simp)
  intro t ht;obtain ⟨u,hu,rfl⟩:=List.mem_map.1 ht;exact (zo6 (h u hu)).1
theorem glueL_le (L:List ByteArray) (h:∀t∈L,t.size≤20):(zf7 (L.map by_)).length≤21*L.length:=by
 induction L with
 |nil=>simp [zf7]
 |cons a L ih=>
  have ha:=h a List.mem_cons_self;have ih:=ih (fun t ht=>h t (List.mem_cons_of_mem _ ht));cases L with
  |nil=>simp [zf7,zc8];omega
  |cons b L=>
   simp only [List.map_cons,zf7,List.length_append,List.length_cons,zc8] at ih ⊢;omega
theorem zy7 (L:List ByteArray) (h:∀t∈L,t.size≤20):(glue L).size≤21*L.length:=by
 rw [←zc8,zl7];exact glueL_le L h
theorem zp1 {s:ByteArray} (h:za0 s=true):(∀t∈names s,zb8 t=true)∧(names s).length≤6:=by
 simp [za0] at h
 exact ⟨h.1.2,h.2⟩
theorem yl0 {L:List ByteArray} (h:∀t∈L,zb8 t=true) (h6:L.length≤6):za0 (glue L)=true:=by
 have hs:=zy7 L (fun t ht=>(zo6 (h t ht)).2.2.2);simp [za0,zn0 h]
 exact ⟨⟨by omega,h⟩,h6⟩
theorem zz2 {s:ByteArray}:za0 s=((names s).all zb8&&decide ((names s).length≤6)):=by
 by_cases h:s.size≤200
 ·simp [za0,h]
 ·have h1:za0 s=false:=zp6 (by omega);rw [h1];by_cases h2:(names s).all zb8=true
  ·have h3:=List.all_eq_true.1 h2;have hs:=zy7 (names s) (fun t ht=>(zo6 (h3 t ht)).2.2.2);rw [zj2] at hs;simp;intro _;omega
  ·simp at h2;simp;intro h4;obtain ⟨x,hx,hy⟩:=h2;exact absurd (h4 x hx) (by simp [hy])
end Pl
end
section
namespace Pl
theorem by_take_succ (s:ByteArray) (k:Nat) (h:k<s.size):(by_ s).take (k+1)=(by_ s).take k++[s[k]]:=take_snoc s k h
theorem slash_split (s:ByteArray):∀k,k≤s.size→((47:UInt8)∉(by_ s).take k∧zd5 s k= -1)∨∃a b,(by_ s).take k=a++47::b∧(47:UInt8)∉b∧zd5 s k=(a.length:Int):=by
 intro k
 induction k with
 |zero=>intro _;left;simp [zd5]
 |succ k ih=>
  intro hk;have hlt:k<s.size:=by omega
  have ih:=ih (by omega);rw [by_take_succ s k hlt];by_cases hb:s[k].toNat=47
  ·right
   have hb':s[k]=47:=UInt8.toNat_inj.1 hb;refine ⟨(by_ s).take k,[],by rw [hb'],by simp,?_⟩;rw [slash_hit hlt hb,List.length_take,zc8,Nat.min_eq_left (by omega)]
  ·have hb':s[k]≠47:=fun e=>hb (by rw [e];rfl);rw [yk8 hlt hb]
   rcases ih with ⟨h1,h2⟩|⟨a,b,h1,h2,h3⟩
   ·left
    refine ⟨?_,h2⟩;rw [List.mem_append,not_or];exact ⟨h1,by simpa using fun e=>hb' e.symm⟩
   ·right
    refine ⟨a,b++[s[k]],by rw [h1];simp,?_,h3⟩;rw [List.mem_append,not_or];exact ⟨h2,by simpa using fun e=>hb' e.symm⟩
theorem yh6 (s:ByteArray):((47:UInt8)∉by_ s∧zd5 s s.size= -1)∨∃a b,by_ s=a++47::b∧(47:UInt8)∉b∧zd5 s s.size=(a.length:Int):=by
 have h:=slash_split s s.size (Nat.le_refl _)
 rwa [List.take_of_length_le (by rw [zc8];exact Nat.le_refl _)] at h
theorem zr8 {l a b:List UInt8} (h:l=a++47::b):zj7 l=cutL a++cutL b:=by
 subst h;rw [zj7,if_neg (by simp),yg9]
theorem yg3 {l:List UInt8} (h:(47:UInt8)∉l):zj7 l=if l=[] then [] else [l]:=by
 rw [zj7];split
 ·rfl
 ·exact zu4 h
def base (s:ByteArray):ByteArray:=s.extract (zd5 s s.size+1).toNat s.size
theorem zu0 (s:ByteArray):parent s=glue (names s).dropLast:=by
 apply ze4
 rw [zl7,List.map_dropLast,zg1];unfold parent
 rcases yh6 s with ⟨h1,h2⟩|⟨a,b,h1,h2,h3⟩
 ·rw [h2,if_pos (by omega),yg3 h1]
  split <;> rfl
 ·rw [h3,if_neg (by omega),zm6,zr8 h1,zu4 h2,List.dropLast_concat,yf1,h1];simp
theorem base_glue (s:ByteArray):base s=glue ((names s).drop ((names s).length - 1)):=by
 apply ze4
 have hl:(names s).length=(zj7 (by_ s)).length:=by rw [←zg1,List.length_map]
 rw [zl7,List.map_drop,zg1,hl];unfold base
 rcases yh6 s with ⟨h1,h2⟩|⟨a,b,h1,h2,h3⟩
 ·rw [h2,zm6,yg3 h1]
  have e:List.take (s.size - ((-1:Int)+1).toNat) (List.drop ((-1:Int)+1).toNat (by_ s))=by_ s:=by
   simp [←zc8]
  rw [e]
  split
  ·next h=>rw [h];rfl
  ·rfl
 ·rw [h3,zm6,zr8 h1,zu4 h2];have h4:((a.length:Int)+1).toNat=a.length+1:=by omega
  have h5:s.size=a.length+1+b.length:=by rw [←zc8,h1];simp;omega
  rw [h4,h5,h1];simp [zf7]
theorem drop_last {α:Type} (L:List α):L.take (L.length - 1)=L.dropLast:=by rw [List.dropLast_eq_take]
def under (p t:ByteArray):Bool:=((names t).map by_).isPrefixOf ((names p).map by_)
theorem zl9 (p t:ByteArray):under p t=true↔(by_ t=[]∨by_ p=by_ t∨∃r,by_ p=by_ t++47::r):=by
 unfold under;rw [List.isPrefixOf_iff_prefix,zg1,zg1]
 constructor
 ·rintro ⟨R,e⟩;by_cases ht:by_ t=[]
  ·exact .inl ht
  ·right
   have e2:=congrArg zf7 e;by_cases hr:R=[]
   ·left
    subst hr;rw [List.append_nil,zn5,zn5] at e2;exact e2.symm
   ·right
    rw [zs7 (by rw [zj7,if_neg ht];exact ya5 _) hr,zn5,zn5] at e2;exact ⟨_,e2.symm⟩
 ·rintro (h|h|⟨r,h⟩)
  ·rw [h];exact List.nil_prefix
  ·rw [h];exact List.prefix_refl _
  ·by_cases ht:by_ t=[]
   ·rw [ht];exact List.nil_prefix
   ·refine ⟨cutL r,?_⟩;rw [zr8 h,zj7,if_neg ht]
def rest (p t:ByteArray):ByteArray:=glue ((names p).drop (names t).length)
theorem rest_root {p t:ByteArray} (h:by_ t=[]):rest p t=p:=by
 have :names t=[]:=by apply yj5;rw [zg1,h];rfl
 rw [rest,this];exact zj2 p
theorem rest_same (p:ByteArray):rest p p=⟨#[]⟩:=by
 rw [rest,List.drop_length];rfl
theorem rest_more {p t:ByteArray} {r:List UInt8} (ht:by_ t≠[]) (h:by_ p=by_ t++47::r):rest p t=p.extract (t.size+1) p.size:=by
 have h1:(names p).map by_=(names t).map by_++cutL r:=by
  rw [zg1,zg1,zr8 h,zj7,if_neg ht]
 apply ze4
 rw [rest,zl7,List.map_drop,h1,←List.length_map (f:=by_) (as:=names t),List.drop_left,yf1,zm6,h];have h2:p.size=t.size+1+r.length:=by rw [←zc8,h,List.length_append,List.length_cons,zc8];omega
 have h3:t.size=(by_ t).length:=(zc8 t).symm;rw [h2,h3];simp
def zh5 (p n:ByteArray):ByteArray:=glue (names p++[n])
theorem joinN_root {p n:ByteArray} (h:by_ p=[]):zh5 p n=n:=by
 apply ze4
 rw [zh5,zl7,List.map_append,zg1,h];rfl
theorem joinN_two {p n:ByteArray} (h:by_ p≠[]):by_ (zh5 p n)=by_ p++47::by_ n:=by
 rw [zh5,zl7,List.map_append,zg1,zs7 (by rw [zj7,if_neg h];exact ya5 _) (by simp),zn5];rfl
end Pl
end
section
namespace Pl
def za6 (s:ByteArray):List ByteArray:=if za0 s then names s else []
theorem zy {s:ByteArray} (h:za0 s=false):za6 s=[]:=by rw [za6,h];rfl
theorem zc1 {s:ByteArray} (h:za0 s=true):za6 s=names s:=by rw [za6,h];rfl
theorem cut_pos (s:ByteArray):0<(cut s 47).length:=by
 have h:=cut_list s;have :(cut s 47).length=(cutL (by_ s)).length:=by rw [←h,List.length_map]
 rw [this];exact List.length_pos_iff.2 (ya5 _)
theorem zj1 {s:ByteArray} (h:s.size=0):za0 s=true∧names s=[]:=by
 have h1:names s=[]:=if_pos h;exact ⟨by simp [zz2,h1],h1⟩
theorem cut_length (s:ByteArray):(cut s 47).length≤s.size+1:=yh0 s 47 s.size 0 0
theorem cut_size {s:ByteArray} {k:Nat} {t:ByteArray} (h:(cut s 47)[k]? =some t):t.size≤s.size:=cutF_size s 47 _ _ _ t (List.mem_of_getElem? h)
theorem ze (s:ByteArray):(∀t∈za6 s,zb8 t=true)∧(za6 s).length≤6:=by
 cases h:za0 s
 ·rw [zy h];simp
 ·rw [zc1 h];exact zp1 h
theorem zp9 {L:List ByteArray} (h:∀t∈L,zb8 t=true) (h6:L.length≤20):(glue L).size≤1000000:=by
 have :=zy7 L (fun t ht=>(zo6 (h t ht)).2.2.2);omega
theorem zt9 {L:List ByteArray} (h:∀t∈L,zb8 t=true) (k:Nat):∀t∈L.take k,zb8 t=true:=fun t ht=>h t (List.mem_of_mem_take ht)
theorem all_drop {L:List ByteArray} (h:∀t∈L,zb8 t=true) (k:Nat):∀t∈L.drop k,zb8 t=true:=fun t ht=>h t (List.mem_of_mem_drop ht)
def zh1 (A B:List ByteArray):Bool:=(B.map by_).isPrefixOf (A.map by_)
theorem zp2 (A B:List ByteArray):zh1 A B=true↔∀ (j:Nat) t,B[j]? =some t→A[j]? =some t:=by
 unfold zh1;rw [List.isPrefixOf_iff_prefix]
 constructor
 ·rintro ⟨R,hR⟩ j t ht
  have h1:(A.map by_)[j]? =some (by_ t):=by
   rw [←hR,List.getElem?_append_left (by rw [List.length_map];exact (List.getElem?_eq_some_iff.1 ht).1),List.getElem?_map,ht];rfl
  rw [List.getElem?_map] at h1;cases hA:A[j]? with
  |none=>rw [hA] at h1;simp at h1
  |some a=>rw [hA] at h1;simp at h1;rw [ze4 h1]
 ·intro h
  have :B=A.take B.length:=by
   apply List.ext_getElem?
   intro j;by_cases hj:j<B.length
   ·rw [List.getElem?_take_of_lt hj,List.getElem?_eq_getElem hj,h j _ (List.getElem?_eq_getElem hj)]
   ·rw [List.getElem?_eq_none (by omega),List.getElem?_eq_none (by simp;omega)]
  rw [this,List.map_take];exact List.take_prefix _ _
theorem ye3 {A B:List ByteArray} (h:A.length<B.length):zh1 A B=false:=by
 rw [Bool.eq_false_iff];intro h1;have h2:=(zp2 A B).1 h1 A.length _ (List.getElem?_eq_getElem h);rw [List.getElem?_eq_none (Nat.le_refl _)] at h2;cases h2
theorem underR_not {A B:List ByteArray} {j:Nat} {a b:ByteArray} (ha:A[j]? =some a) (hb:B[j]? =some b) (h:a≠b):zh1 A B=false:=by
 rw [Bool.eq_false_iff];intro h1;have h2:=(zp2 A B).1 h1 j b hb;rw [ha] at h2;cases h2;exact h rfl
theorem zr0 {a b:ByteArray} (h:a=b):(a.toList==b.toList)=true:=by rw [h];exact beq_self_eq_true _
theorem zj8 {a b:ByteArray} (h:a≠b):(a.toList==b.toList)=false:=by
 rw [beq_eq_false_iff_ne,ByteArray.toList_eq,ByteArray.toList_eq];exact fun e=>h (ze4 e)
def tOut (x:ByteArray × Int):Value:= .agg #[.string x.1, .int .i64 0, .int .i64 x.2]
def ze8 (p n:ByteArray):ByteArray × Int:=
 if 8000<p.size∨8000<n.size then (⟨#[]⟩,2) else if ¬ (za0 p=true∧zb8 n=true) then (⟨#[]⟩,1) else if (za6 p).length=6 then (⟨#[]⟩,9) else (glue (za6 p++[n]),0)
def zj9 (p t:ByteArray):ByteArray × Int:=
 if 8000<p.size∨8000<t.size then (⟨#[]⟩,2) else if ¬ (za0 p=true∧za0 t=true) then (⟨#[]⟩,1) else if zh1 (za6 p) (za6 t)=false then (⟨#[]⟩,6) else (glue ((za6 p).drop (za6 t).length),0)
theorem underR_length {A B:List ByteArray} (h:zh1 A B=true):B.length≤A.length:=by
 by_cases hl:A.length<B.length
 ·rw [ye3 hl] at h;cases h
 ·omega
theorem zb7 {t:ByteArray}:t.toList.isEmpty=decide (by_ t=[]):=by
 rw [ByteArray.toList_eq];change (by_ t).isEmpty=_;cases by_ t <;> simp
theorem list_is {t:ByteArray} {l:List UInt8}:(t.toList==l)=decide (by_ t=l):=by
 rw [ByteArray.toList_eq];change (by_ t==l)=_;exact Bool.beq_eq_decide_eq _ _
end Pl
end
section
namespace Pl
def za7:List ByteArray→List ByteArray→Bool
 | [],[]=>false
 | [],_::_=>true
 |_::_,[]=>false
 |a::A,b::B=>if a=b then za7 A B else Op.bytesLess a.toList b.toList
theorem less_same {A B:List ByteArray} {k:Nat} {a b:ByteArray} (ha:A[k]? =some a) (hb:B[k]? =some b) (h:a=b):za7 (A.drop k) (B.drop k)=za7 (A.drop (k+1)) (B.drop (k+1)):=by
 have h1:=(List.getElem?_eq_some_iff.1 ha);have h2:=(List.getElem?_eq_some_iff.1 hb);rw [List.drop_eq_getElem_cons h1.1,List.drop_eq_getElem_cons h2.1,za7,if_pos (by rw [h1.2,h2.2];exact h)]
theorem yi7 {A B:List ByteArray} {k:Nat} {a b:ByteArray} (ha:A[k]? =some a) (hb:B[k]? =some b) (h:a≠b):za7 (A.drop k) (B.drop k)=Op.bytesLess a.toList b.toList:=by
 have h1:=(List.getElem?_eq_some_iff.1 ha);have h2:=(List.getElem?_eq_some_iff.1 hb);rw [List.drop_eq_getElem_cons h1.1,List.drop_eq_getElem_cons h2.1,za7,if_neg (by rw [h1.2,h2.2];exact h),h1.2,h2.2]
theorem less_end {A B:List ByteArray} {k:Nat} (h:k=A.length∧k≤B.length∨k=B.length∧k≤A.length):za7 (A.drop k) (B.drop k)=decide (A.length<B.length):=by
 rcases h with ⟨rfl,h⟩|⟨rfl,h⟩
 ·rw [List.drop_length];by_cases hl:A.length<B.length
  ·rw [List.drop_eq_getElem_cons hl];simp [za7,hl]
  ·rw [List.drop_of_length_le (by omega)];simp [za7,hl]
 ·rw [List.drop_length];have hn:¬A.length<B.length:=by omega
  by_cases hl:B.length<A.length
  ·rw [List.drop_eq_getElem_cons hl];simp [za7,hn]
  ·rw [List.drop_of_length_le (by omega)];simp [za7,hn]
end Pl
end
section
namespace Pl
theorem bytes_trans:∀a b c:List UInt8,Op.bytesLess a b=true→Op.bytesLess b c=true→Op.bytesLess a c=true:=by
 intro a
 induction a with
 |nil=>
  intro b c h1 h2;cases c with
  |nil=>cases b <;> simp [Op.bytesLess] at h2
  |cons z c=>rfl
 |cons x a ih=>
  intro b c h1 h2;cases b with
  |nil=>simp [Op.bytesLess] at h1
  |cons y b=>
   cases c with
   |nil=>simp [Op.bytesLess] at h2
   |cons z c=>
    simp only [Op.bytesLess,Bool.or_eq_true,decide_eq_true_eq,Bool.and_eq_true,beq_iff_eq] at h1 h2 ⊢
    rcases h1 with h1|⟨rfl,h1⟩
    ·rcases h2 with h2|⟨rfl,h2⟩
     ·left;rw [UInt8.lt_iff_toNat_lt] at h1 h2 ⊢;omega
     ·left;exact h1
    ·rcases h2 with h2|⟨rfl,h2⟩
     ·left;exact h2
     ·right;exact ⟨rfl,ih b c h1 h2⟩
theorem zy5:∀a:List UInt8,Op.bytesLess a a=false:=by
 intro a
 induction a with
 |nil=>rfl
 |cons x a ih=>simp [Op.bytesLess,ih]
theorem zn3:∀A B C:List ByteArray,za7 A B=true→za7 B C=true→za7 A C=true:=by
 intro A
 induction A with
 |nil=>
  intro B C h1 h2;cases C with
  |nil=>cases B <;> simp [za7] at h2
  |cons c C=>rfl
 |cons a A ih=>
  intro B C h1 h2;cases B with
  |nil=>simp [za7] at h1
  |cons b B=>
   cases C with
   |nil=>simp [za7] at h2
   |cons c C=>
    rw [za7] at h1 h2 ⊢;by_cases hab:a=b
    ·subst hab;rw [if_pos rfl] at h1;by_cases hac:a=c
     ·subst hac;rw [if_pos rfl] at h2 ⊢;exact ih B C h1 h2
     ·rw [if_neg hac] at h2 ⊢;exact h2
    ·rw [if_neg hab] at h1;by_cases hbc:b=c
     ·subst hbc;rw [if_neg hab];exact h1
     ·rw [if_neg hbc] at h2;have h3:=bytes_trans _ _ _ h1 h2;by_cases hac:a=c
      ·subst hac;rw [zy5] at h3;cases h3
      ·rw [if_neg hac];exact h3
theorem zq9:∀A:List ByteArray,za7 A A=false:=by
 intro A
 induction A with
 |nil=>rfl
 |cons a A ih=>rw [za7,if_pos rfl,ih]
theorem less_drop:∀A:List ByteArray,A≠[]→za7 A.dropLast A=true:=by
 intro A h;have h1:A.dropLast++[A.getLast h]=A:=List.dropLast_concat_getLast h
 have h2:∀ (B:List ByteArray) (x:ByteArray),za7 B (B++[x])=true:=by
  intro B x
  induction B with
  |nil=>rfl
  |cons b B ih=>rw [List.cons_append,za7,if_pos rfl];exact ih
 have h3:=h2 A.dropLast (A.getLast h);rw [h1] at h3;exact h3
def ltP (a b:ByteArray):Bool:=za0 a&&za0 b&&za7 (za6 a) (za6 b)
def zc3 (p:ByteArray):ByteArray:=glue (za6 p).dropLast
def parI (C:List Nd) (p:ByteArray):Bool:=decide ((zc3 p).size=0)||C.any (fun m=>decide (m.path=zc3 p)&&decide (m.kind=1))
def goI (C:List Nd) (last:ByteArray):List Nd→Bool
 | []=>true
 |n::r=>zb6 n&&ltP last n.path&&parI C n.path&&goI (C++[n]) n.path r
def zc7 (L:List Nd):Bool:=decide (L.length≤40)&&goI [] ⟨#[]⟩ L
def dirS (L:List Nd) (p:ByteArray):Bool:=decide (p.size=0)||(match L.find? (fun m=>decide (m.path=p)) with |some m=>decide (m.kind=1)|none=>false)
def prevB (prev:Option ByteArray) (p:ByteArray):Bool:=match prev with |none=>true|some q=>za7 (names q) (names p)
def goS (L:List Nd) (prev:Option ByteArray):List Nd→Bool
 | []=>true
 |n::r=>zb6 n&&prevB prev n.path&&dirS L (parent n.path)&&goS L (some n.path) r
theorem zm2 {n:Nd} (h:zb6 n=true):za0 n.path=true∧n.path.size≠0:=by
 unfold zb6 at h;simp only [Bool.and_eq_true,decide_eq_true_eq] at h;exact ⟨h.1.1.1.1.2,h.1.1.1.1.1⟩
theorem zu3 {n:Nd} (h:zb6 n=true):n.data.size≤60∧(0≤n.time∧n.time≤1000000)∧(0≤n.mark∧n.mark≤8)∧zj0 n=true:=by
 unfold zb6 at h;simp only [Bool.and_eq_true,decide_eq_true_eq] at h;exact ⟨h.1.1.1.2,h.1.1.2,h.1.2,h.2⟩
theorem zg0 {p:ByteArray} (h:za0 p=true):p.size≤200:=by
 unfold za0 at h;simp only [Bool.and_eq_true,decide_eq_true_eq] at h;exact h.1.1
theorem yb2 {p:ByteArray} (h:p.size≠0):names p≠[]:=by
 intro e;have :=zg1 p;rw [e] at this;simp only [List.map_nil,zj7] at this
 split at this
 ·next h1=>rw [zf5] at h1;exact h h1
 ·exact ya5 _ this.symm
theorem ye7 {p:ByteArray} (h:za0 p=true):parent p=zc3 p:=by rw [zu0,zc3,zc1 h]
theorem yd8 {p:ByteArray} (h:za0 p=true):names (zc3 p)=(names p).dropLast:=by
 rw [zc3,zc1 h];exact zn0 (fun t ht=>(zp1 h).1 t (List.dropLast_subset _ ht))
theorem zo2 {a b:ByteArray} (ha:za0 a=true) (hb:za0 b=true):ltP a b=za7 (names a) (names b):=by rw [ltP,ha,hb,zc1 ha,zc1 hb];rfl
theorem rise (L:List Nd):∀ (r:List Nd) (q:ByteArray),goS L (some q) r=true→∀m∈r,za7 (names q) (names m.path)=true:=by
 intro r
 induction r with
 |nil=>intro q _ m hm;cases hm
 |cons n r ih=>
  intro q h m hm;simp only [goS,Bool.and_eq_true] at h
  rcases List.mem_cons.1 hm with rfl |hm
  ·exact h.1.1.2
  ·exact zn3 _ _ _ h.1.1.2 (ih n.path h.2 m hm)
theorem find_app {α:Type} {f:α→Bool} (A B:List α):(A++B).find? f=match A.find? f with |some x=>some x|none=>B.find? f:=by
 rw [List.find?_append];cases A.find? f <;> rfl
theorem one_path {C:List Nd} (h:C.Pairwise (fun a b=>za7 (names a.path) (names b.path)=true)) {a b:Nd} (ha:a∈C) (hb:b∈C) (e:a.path=b.path):a=b:=by
 induction h with
 |nil=>cases ha
 |cons hx _ ih=>
  rcases List.mem_cons.1 ha with e1|h1
  ·rcases List.mem_cons.1 hb with e2|h2
   ·rw [e1,e2]
   ·have h3:=hx _ h2;rw [←e1,e,zq9] at h3;cases h3
  ·rcases List.mem_cons.1 hb with e2|h2
   ·have h3:=hx _ h1;rw [←e2,e,zq9] at h3;cases h3
   ·exact ih h1 h2
theorem go_same (L:List Nd):∀ (r C:List Nd) (prev:Option ByteArray) (last:ByteArray),L=C++r→(prev=none∧C=[]∧last=⟨#[]⟩∨prev=some last∧za0 last=true)→
  C.Pairwise (fun a b=>za7 (names a.path) (names b.path)=true)→(∀a∈C,a.path=last∨za7 (names a.path) (names last)=true)→goS L prev r=goI C last r:=by
 intro r
 induction r with
 |nil=>intros;rfl
 |cons n r ih=>
  intro C prev last hL hprev hC hlast;simp only [goS,goI];cases hn:zb6 n
  ·simp
  obtain ⟨hr,h0⟩:=zm2 hn
  have hlt:prevB prev n.path=ltP last n.path:=by
   rcases hprev with ⟨rfl,rfl,rfl⟩|⟨rfl,hl⟩
   ·have e1:za0 (⟨#[]⟩:ByteArray)=true:=(zj1 rfl).1;have e2:names (⟨#[]⟩:ByteArray)=[]:=(zj1 rfl).2;rw [zo2 e1 hr,e2];cases hx:names n.path with
    |nil=>exact absurd hx (yb2 h0)
    |cons a l=>rfl
   ·rw [zo2 hl hr];rfl
  rw [hlt];cases hlt2:ltP last n.path
  ·simp
  simp only [Bool.true_and,ye7 hr]
  have hall:∀a∈C,za7 (names a.path) (names n.path)=true:=by
   intro a ha
   rcases hprev with ⟨_,rfl,_⟩|⟨_,hl⟩
   ·cases ha
   ·rw [zo2 hl hr] at hlt2
    rcases hlast a ha with e|e
    ·rw [e];exact hlt2
    ·exact zn3 _ _ _ e hlt2
  have hC2:(C++[n]).Pairwise (fun a b=>za7 (names a.path) (names b.path)=true):=by
   rw [List.pairwise_append];exact ⟨hC,List.pairwise_singleton _ _,fun a ha b hb=>by simp at hb;subst hb;exact hall a ha⟩
  have hrest:goS L (some n.path) r=goI (C++[n]) n.path r:=by
   refine ih (C++[n]) (some n.path) n.path (by rw [hL];simp) (.inr ⟨rfl,hr⟩) hC2 ?_;intro a ha
   rcases List.mem_append.1 ha with ha|ha
   ·exact .inr (hall a ha)
   ·simp at ha;subst ha;exact .inl rfl
  by_cases hp:(zc3 n.path).size=0
  ·have e1:dirS L (zc3 n.path)=true:=by simp [dirS,hp]
   have e2:parI C n.path=true:=by simp [parI,hp]
   rw [e1,e2,hrest]
  cases hpar:parI C n.path
  ·have e1:(dirS L (zc3 n.path)&&goS L (some n.path) r)=false:=by
    rw [Bool.eq_false_iff];intro h;simp only [Bool.and_eq_true] at h;have hd:=h.1;simp only [dirS,hp,decide_false,Bool.false_or] at hd;rw [hL,find_app] at hd
    have hCn:C.find? (fun m=>decide (m.path=zc3 n.path))=none∨∃m,C.find? (fun m=>decide (m.path=zc3 n.path))=some m:=by
     cases C.find? (fun m=>decide (m.path=zc3 n.path)) with
     |none=>exact .inl rfl
     |some m=>exact .inr ⟨m,rfl⟩
    rcases hCn with hCn|⟨m,hm⟩
    ·rw [hCn] at hd;cases hf:(n::r).find? (fun m=>decide (m.path=zc3 n.path)) with
     |none=>rw [hf] at hd;simp at hd
     |some m=>
      have hm1:=List.mem_of_find?_eq_some hf;have hm2:m.path=zc3 n.path:=by simpa using List.find?_some hf
      have hless:za7 (names m.path) (names n.path)=true:=by
       rw [hm2,yd8 hr];exact less_drop _ (yb2 h0)
      rcases List.mem_cons.1 hm1 with rfl |hm1
      ·rw [zq9] at hless;cases hless
      ·have h3:=rise L r n.path h.2 m hm1;have h4:=zn3 _ _ _ hless h3;rw [zq9] at h4;cases h4
    ·rw [hm] at hd;have hm1:=List.mem_of_find?_eq_some hm;have hm2:m.path=zc3 n.path:=by simpa using List.find?_some hm
     have :parI C n.path=true:=by
      simp only [parI,Bool.or_eq_true,List.any_eq_true];exact .inr ⟨m,hm1,by simpa [hm2] using hd⟩
     rw [hpar] at this;cases this
   rw [e1];simp
  ·have e1:dirS L (zc3 n.path)=true:=by
    simp only [parI,hp,decide_false,Bool.false_or,List.any_eq_true,Bool.and_eq_true,decide_eq_true_eq] at hpar;obtain ⟨m,hm,hm2,hm3⟩:=hpar
    have hfind:C.find? (fun m=>decide (m.path=zc3 n.path))=some m:=by
     cases hf:C.find? (fun m=>decide (m.path=zc3 n.path)) with
     |none=>
      have :=List.find?_eq_none.1 hf m hm;simp [hm2] at this
     |some x=>
      have hx1:=List.mem_of_find?_eq_some hf;have hx2:x.path=zc3 n.path:=by simpa using List.find?_some hf
      rw [one_path hC hx1 hm (hx2.trans hm2.symm)]
    simp only [dirS,hp,decide_false,Bool.false_or];rw [hL,find_app,hfind]
    simpa using hm3
   rw [e1,hrest]
theorem tree_same (L:List Nd):goS L none L=goI [] ⟨#[]⟩ L:=
 go_same L L [] none ⟨#[]⟩ rfl (.inl ⟨rfl,rfl,rfl⟩) List.Pairwise.nil (fun a ha=>by cases ha)
theorem goI_all:∀ (r C:List Nd) (last:ByteArray),goI C last r=true→∀n∈r,zb6 n=true:=by
 intro r
 induction r with
 |nil=>intro C last _ n hn;cases hn
 |cons m r ih=>
  intro C last h n hn;simp only [goI,Bool.and_eq_true] at h
  rcases List.mem_cons.1 hn with rfl |hn
  ·exact h.1.1.1
  ·exact ih _ _ h.2 n hn
theorem goI_rise:∀ (r C:List Nd) (last:ByteArray),goI C last r=true→za0 last=true→r.Pairwise (fun a b=>za7 (names a.path) (names b.path)=true)∧∀n∈r,za7 (names last) (names n.path)=true:=by
 intro r
 induction r with
 |nil=>intro C last _ _;exact ⟨List.Pairwise.nil,fun n hn=>by cases hn⟩
 |cons m r ih=>
  intro C last h hl;simp only [goI,Bool.and_eq_true] at h;obtain ⟨hr,h0⟩:=zm2 h.1.1.1;obtain ⟨i1,i2⟩:=ih _ _ h.2 hr;have h1:=h.1.1.2;rw [zo2 hl hr] at h1;refine ⟨List.Pairwise.cons (fun n hn=>i2 n hn) i1,fun n hn=>?_⟩
  rcases List.mem_cons.1 hn with rfl |hn
  ·exact h1
  ·exact zn3 _ _ _ h1 (i2 n hn)
end Pl
end
section
namespace Pl
inductive Fo where
 |nil:Fo
 |cons (kids more:Fo):Fo
namespace Fo
def len:Fo→Nat
 | .nil=>0
 | .cons _ m=>m.len+1
def depth:Fo→Nat
 | .nil=>0
 | .cons k m=>max (k.depth+1) m.depth
def app:Fo→Fo→Fo
 | .nil,r=>r
 | .cons k m,r=> .cons k (m.app r)
theorem app_nil (a:Fo):a.app .nil=a:=by
 induction a with
 |nil=>rfl
 |cons k m _ ih=>rw [app,ih]
theorem app_assoc (a b c:Fo):(a.app b).app c=a.app (b.app c):=by
 induction a with
 |nil=>rfl
 |cons k m _ ih=>rw [app,app,app,ih]
theorem len_app (a b:Fo):(a.app b).len=a.len+b.len:=by
 induction a with
 |nil=>simp [app,len]
 |cons k m _ ih=>rw [app,len,len,ih];omega
theorem depth_app (a b:Fo):(a.app b).depth=max a.depth b.depth:=by
 induction a with
 |nil=>simp [app,depth]
 |cons k m _ ih=>rw [app,depth,depth,ih];omega
theorem zz0 (k:Fo):(Fo.cons k .nil).depth=k.depth+1:=by simp [depth]
end Fo
abbrev Row:=List (Option Nat)
def parse:Nat→Nat→Row→Option (Fo × Row)
 |_,0,L=>some (.nil,L)
 |0,_+1,_=>none
 |_+1,_+1,[]=>none
 |_+1,_+1,none::_=>none
 |f+1,k+1,some m::L=>match parse f m L with
  |none=>none
  |some (kids,R)=>match parse f k R with
   |none=>none
   |some (more,R')=>some (.cons kids more,R')
theorem zy4 (f:Nat):∀k L F R,parse f k L=some (F,R)→F.len=k∧R.length+k≤L.length∧∃n,R=L.drop n:=by
 induction f with
 |zero=>
  intro k L F R h;cases k with
  |zero=>simp [parse] at h;obtain ⟨rfl,rfl⟩:=h;exact ⟨rfl,Nat.le_refl _,0,rfl⟩
  |succ k=>simp [parse] at h
 |succ f ih=>
  intro k L F R h;cases k with
  |zero=>simp [parse] at h;obtain ⟨rfl,rfl⟩:=h;exact ⟨rfl,Nat.le_refl _,0,rfl⟩
  |succ k=>
   match L,h with
   | [],h=>simp [parse] at h
   |none::L,h=>simp [parse] at h
   |some m::L,h=>
    simp only [parse] at h
    split at h
    ·cases h
    ·rename_i kids R1 h1
     split at h
     ·cases h
     ·rename_i more R2 h2
      cases h
      obtain ⟨a1,a2,n1,a3⟩:=ih _ _ _ _ h1;obtain ⟨b1,b2,n2,b3⟩:=ih _ _ _ _ h2;refine ⟨by rw [Fo.len,b1],by simp;omega,n1+n2+1,?_⟩;rw [b3,a3,List.drop_drop,List.drop_succ_cons]
theorem parse_fuel (f:Nat):∀g k (L:Row),L.length≤f→L.length≤g→parse f k L=parse g k L:=by
 induction f with
 |zero=>
  intro g k L h1 h2;have :L=[]:=List.eq_nil_of_length_eq_zero (by omega);subst this;cases k <;> cases g <;> simp [parse]
 |succ f ih=>
  intro g k L h1 h2;cases k with
  |zero=>cases g <;> simp [parse]
  |succ k=>
   match L,h1,h2 with
   | [],_,_=>cases g <;> simp [parse]
   |none::L,_,h2=>cases g <;> simp [parse]
   |some m::L,h1,h2=>
    cases g with
    |zero=>simp at h2
    |succ g=>
     simp only [List.length_cons] at h1 h2;simp only [parse];rw [ih g m L (by omega) (by omega)]
     split
     ·rfl
     ·rename_i kids R h
      have :=(zy4 _ _ _ _ _ h).2.1;rw [ih g k R (by omega) (by omega)]
def take (k:Nat) (L:Row):Option (Fo × Row):=parse L.length k L
theorem take_zero (L:Row):take 0 L=some (.nil,L):=by unfold take;cases L.length <;> rfl
theorem yf9 (k m:Nat) (L:Row):take (k+1) (some m::L)=match take m L with
  |none=>none
  |some (kids,R)=>match take k R with
   |none=>none
   |some (more,R')=>some (.cons kids more,R'):=by
 unfold take;simp only [List.length_cons,parse]
 split
 ·rfl
 ·rename_i kids R h
  have :=(zy4 _ _ _ _ _ h).2.1;rw [parse_fuel L.length R.length k R (by omega) (Nat.le_refl _)]
theorem takeF_len {k:Nat} {L:Row} {F:Fo} {R:Row} (h:take k L=some (F,R)):F.len=k∧R.length+k≤L.length∧R=L.drop (L.length - R.length):=by
 obtain ⟨h1,h2,n,h3⟩:=zy4 _ _ _ _ _ h;refine ⟨h1,h2,?_⟩;by_cases hn:n≤L.length
 ·have :R.length=L.length - n:=by rw [h3,List.length_drop]
  rw [this,Nat.sub_sub_self hn];exact h3
 ·have e:R=[]:=by rw [h3];exact List.drop_eq_nil_of_le (by omega)
  subst e;simp
theorem yb0 (m:Nat) (L:Row):take 1 (some m::L)=(take m L).map (fun x=>(.cons x.1 .nil,x.2)):=by
 rw [show (1:Nat)=0+1 from rfl,yf9];cases h:take m L with
 |none=>rfl
 |some x=>obtain ⟨a,b⟩:=x;simp [take_zero]
theorem yf8 (k:Nat) (L:Row):take (k+1) L=match take 1 L with
  |none=>none
  |some (F,R)=>match take k R with
   |none=>none
   |some (more,R')=>some (F.app more,R'):=by
 match L with
 | []=>rfl
 |none::L=>rfl
 |some m::L=>
  rw [yb0,yf9];cases h:take m L with
  |none=>rfl
  |some x=>obtain ⟨a,b⟩:=x;rfl
theorem one_shape {L:Row} {F:Fo} {R:Row} (h:take 1 L=some (F,R)):∃kids,F= .cons kids .nil:=by
 match L,h with
 | [],h=>cases h
 |none::L,h=>cases h
 |some m::L,h=>
  rw [yb0] at h;cases h':take m L with
  |none=>rw [h'] at h;simp at h
  |some x=>rw [h'] at h;simp at h;exact ⟨x.1,h.1.symm⟩
def ends (k deep:Nat) (L:Row):Option Row:=match take k L with
 |none=>none
 |some (F,R)=>if deep+F.depth≤5 then some R else none
theorem ends_zero (deep:Nat) (L:Row) (h:deep≤5):ends 0 deep L=some L:=by
 unfold ends;rw [take_zero];simp [Fo.depth,h]
theorem ends_step (k deep:Nat) (L:Row):ends (k+1) deep L=(ends 1 deep L).bind (ends k deep):=by
 unfold ends;rw [yf8];cases h:take 1 L with
 |none=>rfl
 |some x=>
  obtain ⟨F,R⟩:=x;simp only;cases h2:take k R with
  |none=>
   by_cases h3:deep+F.depth≤5
   ·simp only [if_pos h3,Option.bind_some,h2]
   ·simp only [if_neg h3,Option.bind_none]
  |some y=>
   obtain ⟨M,R'⟩:=y;simp only [Fo.depth_app];by_cases h3:deep+F.depth≤5
   ·rw [if_pos h3];simp only [Option.bind_some,h2];by_cases h4:deep+M.depth≤5
    ·rw [if_pos h4,if_pos (by omega)]
    ·rw [if_neg h4,if_neg (by omega)]
   ·rw [if_neg h3,if_neg (by omega)];rfl
theorem ends_one (m deep:Nat) (L:Row):ends 1 deep (some m::L)=ends m (deep+1) L:=by
 unfold ends;rw [yb0];cases h1:take m L with
 |none=>rfl
 |some x=>
  obtain ⟨F,R⟩:=x;simp only [Option.map_some];have hd:=Fo.zz0 F;by_cases h2:deep+1+F.depth≤5
  ·rw [if_pos h2,if_pos (by omega)]
  ·rw [if_neg h2,if_neg (by omega)]
theorem ends_none (deep:Nat) (L:Row):ends 1 deep (none::L)=none:=rfl
theorem ends_nil (deep:Nat):ends 1 deep []=none:=rfl
theorem ends_deep (deep:Nat) (L:Row) (h:4<deep):ends 1 deep L=none:=by
 unfold ends;cases h1:take 1 L with
 |none=>rfl
 |some x=>
  obtain ⟨F,R⟩:=x;obtain ⟨kids,rfl⟩:=one_shape h1;have hd:=Fo.zz0 kids;exact if_neg (by omega)
theorem ends_len {k deep:Nat} {L R:Row} (h:ends k deep L=some R):R.length+k≤L.length∧R=L.drop (L.length - R.length):=by
 unfold ends at h;cases h1:take k L with
 |none=>rw [h1] at h;cases h
 |some x=>
  obtain ⟨F,R'⟩:=x;rw [h1] at h;simp only at h
  split at h
  ·cases h;exact (takeF_len h1).2
  ·cases h
def nest (L:Row):Option Fo:=if L.length≤12 then match take 1 L with
 |some (.cons k .nil,[])=>if k.depth≤3 then some k else none
 |_=>none else none
theorem zt {L:Row} {k:Fo} (h:nest L=some k):L.length≤12∧take 1 L=some (.cons k .nil,[])∧k.depth≤3:=by
 unfold nest at h
 split at h
 ·split at h
  ·split at h
   ·cases h;exact ⟨by assumption,by assumption,by assumption⟩
   ·cases h
  ·cases h
 ·cases h
theorem nest_ends (L:Row) (h:L.length≤12):(nest L).isSome=true↔ends 1 1 L=some []:=by
 unfold nest ends;rw [if_pos h];cases h1:take 1 L with
 |none=>simp
 |some x=>
  obtain ⟨F,R⟩:=x;obtain ⟨k,rfl⟩:=one_shape h1;have hd:=Fo.zz0 k;cases R with
  |nil=>
   simp only;by_cases h2:k.depth≤3
   ·rw [if_pos h2,if_pos (by omega)];simp
   ·rw [if_neg h2,if_neg (by omega)];simp
  |cons a b=>simp only;split <;> simp
theorem ye4 (L:Row) (h:¬L.length≤12):nest L=none:=by unfold nest;rw [if_neg h]
end Pl
end
section
namespace Pl
def zg6 (m:Int) (L:List Nd):Bool:=decide (0≤m)&&decide (m≤4)&&(decide (m=0)||L.isEmpty)&&zc7 L
def zm8 (x:Int × List Nd):Option Nat:=if zg6 x.1 x.2=true then some x.1.toNat else none
def rowO (xs:List (Int × List Nd)):Row:=xs.map zm8
theorem treeB_nil:zc7 []=true:=by rfl
theorem yj0 (L:List Nd):zg6 0 L=zc7 L:=by simp [zg6]
theorem yd0 {m:Int} (h:m≠0) (L:List Nd):zg6 m L=(decide (1≤m)&&decide (m≤4)&&decide (L.length=0)):=by
 unfold zg6;rw [show decide (m=0)=false from decide_eq_false h,Bool.false_or];have e:decide (0≤m)=decide (1≤m):=decide_eq_decide.2 (by omega);rw [e];cases L with
 |nil=>simp [treeB_nil]
 |cons a L=>simp
theorem zz1 {m:Int} {L:List Nd} (h:zg6 m L=true):0≤m∧m≤4:=by
 simp [zg6] at h
 exact ⟨h.1.1.1,h.1.1.2⟩
theorem ye9 {m:Int} {L:List Nd} (h:zg6 m L=true):zm8 (m,L)=some m.toNat:=by simp [zm8,h]
theorem itemO_no {m:Int} {L:List Nd} (h:zg6 m L=false):zm8 (m,L)=none:=by simp [zm8,h]
theorem itemO_some {x:Int × List Nd} {k:Nat} (h:zm8 x=some k):x.1=(k:Int)∧k≤4:=by
 unfold zm8 at h
 split at h
 ·rename_i hb
  have :=zz1 hb;cases h
  omega
 ·cases h
theorem zm9 (xs:List (Int × List Nd)):(rowO xs).length=xs.length:=by simp [rowO]
theorem rowO_at {xs:List (Int × List Nd)} {i:Nat} {x:Int × List Nd} (h:xs[i]? =some x):(rowO xs).drop i=zm8 x::(rowO xs).drop (i+1):=by
 obtain ⟨h1,h2⟩:=List.getElem?_eq_some_iff.1 h;rw [List.drop_eq_getElem_cons (by rw [zm9];exact h1)]
 congr 1
 simp [rowO,h2]
def endI (n:Nat):Option Row→Int
 |none=> -1
 |some R=>(n:Int) - (R.length:Int)
theorem ends_at {k deep p n:Nat} {L R:Row} (hn:L.length=n) (hp:p≤n) (h:ends k deep (L.drop p)=some R):∃p':Nat,endI n (some R)=(p':Int)∧p'≤n∧L.drop p'=R:=by
 obtain ⟨h1,h2⟩:=ends_len h;rw [List.length_drop] at h1 h2;refine ⟨n - R.length,by rw [endI];omega,by omega,?_⟩;rw [List.drop_drop] at h2;have e:p+(L.length - p - R.length)=n - R.length:=by omega
 rw [e] at h2;exact h2.symm
def Fo.sz:Fo→Nat
 | .nil=>0
 | .cons k m=>k.sz+m.sz+1
theorem Fo.len_le (F:Fo):F.len≤F.sz:=by
 induction F with
 |nil=>simp [Fo.len]
 |cons k m _ ih=>simp only [Fo.len,Fo.sz];omega
theorem Fo.depth_le (F:Fo):F.depth≤F.sz:=by
 induction F with
 |nil=>simp [Fo.depth]
 |cons k m ih1 ih2=>simp only [Fo.depth,Fo.sz];omega
theorem parse_sz (f:Nat):∀k L F R,parse f k L=some (F,R)→F.sz+R.length=L.length:=by
 induction f with
 |zero=>
  intro k L F R h;cases k with
  |zero=>simp [parse] at h;obtain ⟨rfl,rfl⟩:=h;simp [Fo.sz]
  |succ k=>simp [parse] at h
 |succ f ih=>
  intro k L F R h;cases k with
  |zero=>simp [parse] at h;obtain ⟨rfl,rfl⟩:=h;simp [Fo.sz]
  |succ k=>
   match L,h with
   | [],h=>simp [parse] at h
   |none::L,h=>simp [parse] at h
   |some m::L,h=>
    simp only [parse] at h
    split at h
    ·cases h
    ·rename_i kids R1 h1
     split at h
     ·cases h
     ·rename_i more R2 h2
      cases h
      have a1:=ih _ _ _ _ h1;have a2:=ih _ _ _ _ h2;simp only [Fo.sz,List.length_cons];omega
theorem take_sz {k:Nat} {L R:Row} {F:Fo} (h:take k L=some (F,R)):F.sz+R.length=L.length:=parse_sz _ _ _ _ _ h
theorem nest_fail {L:Row} (h:take 1 L=none):nest L=none:=by
 unfold nest;rw [h];simp
theorem nest_rest {L R:Row} {k:Fo} (h:take 1 L=some (.cons k .nil,R)) (hR:R.length≠0):nest L=none:=by
 unfold nest;rw [h];cases R with
 |nil=>simp at hR
 |cons a b=>simp
theorem nest_deep {L R:Row} {k:Fo} (h:take 1 L=some (.cons k .nil,R)) (hd:4<k.depth+1):nest L=none:=by
 unfold nest;rw [h];cases R with
 |nil=>simp only;rw [if_neg (show ¬k.depth≤3 by omega)];simp
 |cons a b=>simp
theorem nest_ok {L R:Row} {k:Fo} (h12:L.length≤12) (h:take 1 L=some (.cons k .nil,R)) (hR:R.length=0) (hd:¬4<k.depth+1):nest L=some k:=by
 have e:R=[]:=List.eq_nil_of_length_eq_zero hR;subst e;unfold nest;rw [if_pos h12,h];simp only;rw [if_pos (show k.depth≤3 by omega)]
def went (F:Fo) (o:Option (Fo × Row)):Option (Fo × Row):=o.map (fun y=>(F.app y.1,y.2))
theorem went_start (o:Option (Fo × Row)):went .nil o=o:=by cases o <;> rfl
theorem went_step {F kids:Fo} {k:Nat} {L R:Row} (h:take 1 L=some (.cons kids .nil,R)):went F (take (k+1) L)=went (F.app (.cons kids .nil)) (take k R):=by
 rw [yf8,h];cases h2:take k R with
 |none=>simp [went,h2]
 |some y=>obtain ⟨m,R'⟩:=y;simp [went,h2,Fo.app_assoc]
theorem went_fail {F:Fo} {k:Nat} {L:Row} (h:take 1 L=none):went F (take (k+1) L)=none:=by
 rw [yf8,h];rfl
theorem went_end (F:Fo) (L:Row):went F (take 0 L)=some (F,L):=by simp [went,take_zero,Fo.app_nil]
theorem rowO_drop (xs:List (Int × List Nd)) (k:Nat):(rowO xs).drop k=rowO (xs.drop k):=by simp [rowO,List.map_drop]
end Pl
end
section
namespace Pl
inductive Fx where
 |nil:Fx
 |cons (L:List Nd) (kids more:Fx):Fx
namespace Fx
def shape:Fx→Fo
 | .nil=> .nil
 | .cons _ k m=> .cons k.shape m.shape
def len:Fx→Nat
 | .nil=>0
 | .cons _ _ m=>m.len+1
def sz:Fx→Nat
 | .nil=>0
 | .cons _ k m=>k.sz+m.sz+1
def flat:Fx→List (Int × List Nd)
 | .nil=>[]
 | .cons L k m=>((k.len:Int),L)::(k.flat++m.flat)
def app:Fx→Fx→Fx
 | .nil,r=>r
 | .cons L k m,r=> .cons L k (m.app r)
def okX:Fx→Prop
 | .nil=>True
 | .cons L k m=>zc7 L=true∧(k= .nil∨L=[])∧k.len≤4∧k.okX∧m.okX
theorem zv1 (X:Fx):X.shape.len=X.len:=by
 induction X with
 |nil=>rfl
 |cons L k m _ ih=>rw [shape,Fo.len,len,ih]
theorem yc5 (X:Fx):X.flat.length=X.sz:=by
 induction X with
 |nil=>rfl
 |cons L k m ih1 ih2=>rw [flat,List.length_cons,List.length_append,ih1,ih2,sz]
theorem shape_app (a b:Fx):(a.app b).shape=a.shape.app b.shape:=by
 induction a with
 |nil=>rfl
 |cons L k m _ ih=>rw [app,shape,shape,ih];rfl
theorem len_app (a b:Fx):(a.app b).len=a.len+b.len:=by
 induction a with
 |nil=>simp [app,len]
 |cons L k m _ ih=>rw [app,len,len,ih];omega
theorem flat_app (a b:Fx):(a.app b).flat=a.flat++b.flat:=by
 induction a with
 |nil=>rfl
 |cons L k m _ ih=>rw [app,flat,flat,ih];simp
theorem ok_app {a b:Fx} (ha:a.okX) (hb:b.okX):(a.app b).okX:=by
 induction a with
 |nil=>exact hb
 |cons L k m _ ih=>exact ⟨ha.1,ha.2.1,ha.2.2.1,ha.2.2.2.1,ih ha.2.2.2.2⟩
theorem shape_nil {X:Fx} (h:X.shape= .nil):X= .nil:=by
 cases X with
 |nil=>rfl
 |cons L k m=>cases h
theorem zt6 {X:Fx} (h:X.len=0):X= .nil:=by
 cases X with
 |nil=>rfl
 |cons L k m=>simp [len] at h
theorem len_le (X:Fx):X.len≤X.sz:=by
 induction X with
 |nil=>exact Nat.le_refl _
 |cons L k m _ ih=>rw [len,sz];omega
theorem ok_mem {X:Fx} (h:X.okX):∀x∈X.flat,zc7 x.2=true∧0≤x.1∧x.1≤4:=by
 induction X with
 |nil=>intro x hx;cases hx
 |cons L k m ih1 ih2=>
  intro x hx;rw [flat,List.mem_cons,List.mem_append] at hx
  rcases hx with rfl |hx|hx
  ·exact ⟨h.1,by omega,by have :=h.2.2.1;omega⟩
  ·exact ih1 h.2.2.2.1 x hx
  ·exact ih2 h.2.2.2.2 x hx
end Fx
end Pl
end
section
namespace Pl
def fill:Fo→List (Int × List Nd)→Fx × List (Int × List Nd)
 | .nil,xs=>(.nil,xs)
 | .cons _ _,[]=>(.nil,[])
 | .cons k m,x::xs=>(.cons x.2 (fill k xs).1 (fill m (fill k xs).2).1,(fill m (fill k xs).2).2)
theorem fill_flat (X:Fx):∀R,fill X.shape (X.flat++R)=(X,R):=by
 induction X with
 |nil=>intro R;rfl
 |cons L k m ih1 ih2=>
  intro R;rw [Fx.shape,Fx.flat,List.cons_append,fill,List.append_assoc,ih1,ih2]
def nestX (xs:List (Int × List Nd)):Option (List Nd × Fx):=match nest (rowO xs) with
 |none=>none
 |some k=>match (fill (.cons k .nil) xs).1 with
  | .cons L K _=>some (L,K)
  | .nil=>none
theorem yb9 {xs:List (Int × List Nd)} {L:List Nd} {k:Fx} (h:nest (rowO xs)=some k.shape) (hf:(Fx.cons L k .nil).flat=xs):nestX xs=some (L,k):=by
 unfold nestX;rw [h];have :=fill_flat (Fx.cons L k .nil) [];rw [List.append_nil,hf] at this;have e2:fill (Fo.cons k.shape .nil) xs=(Fx.cons L k .nil,[]):=this;simp only [e2]
theorem parse_fill (f:Nat):∀k (xs:List (Int × List Nd)) F R,parse f k (rowO xs)=some (F,R)→∃X rest,Fx.shape X=F∧R=rowO rest∧xs=X.flat++rest∧X.okX:=by
 induction f with
 |zero=>
  intro k xs F R h;cases k with
  |zero=>simp [parse] at h;obtain ⟨rfl,rfl⟩:=h;exact ⟨.nil,xs,rfl,rfl,rfl,trivial⟩
  |succ k=>simp [parse] at h
 |succ f ih=>
  intro k xs F R h;cases k with
  |zero=>simp [parse] at h;obtain ⟨rfl,rfl⟩:=h;exact ⟨.nil,xs,rfl,rfl,rfl,trivial⟩
  |succ k=>
   cases xs with
   |nil=>simp [rowO,parse] at h
   |cons x xs=>
    have e:rowO (x::xs)=zm8 x::rowO xs:=rfl;rw [e] at h;cases hx:zm8 x with
    |none=>rw [hx] at h;simp [parse] at h
    |some m=>
     rw [hx] at h;simp only [parse] at h
     split at h
     ·cases h
     ·rename_i kids R1 h1
      split at h
      ·cases h
      ·rename_i more R2 h2
       cases h
       obtain ⟨K,r1,e1,e2,e3,o1⟩:=ih _ _ _ _ h1;rw [e2] at h2;obtain ⟨M,r2,e4,e5,e6,o2⟩:=ih _ _ _ _ h2;have hm:=itemO_some hx;have hl:K.len=m:=by rw [←Fx.zv1,e1];exact (zy4 _ _ _ _ _ h1).1
       have hb:zg6 x.1 x.2=true:=by
        unfold zm8 at hx
        split at hx
        ·assumption
        ·cases hx
       have hb2:zc7 x.2=true∧(x.1=0∨x.2=[]):=by
        unfold zg6 at hb;simp only [Bool.and_eq_true,Bool.or_eq_true,decide_eq_true_eq,List.isEmpty_iff] at hb;exact ⟨hb.2,hb.1.2⟩
       refine ⟨.cons x.2 K M,r2,by rw [Fx.shape,e1,e4],e5,?_,hb2.1,?_,by omega,o1,o2⟩
       ·rw [Fx.flat,hl,←hm.1,List.cons_append,List.append_assoc,←e6,←e3]
       ·rcases hb2.2 with h0|h0
        ·exact .inl (Fx.zt6 (by omega))
        ·exact .inr h0
theorem zr5 {xs:List (Int × List Nd)} {F:Fo} (h:nest (rowO xs)=some F):∃L k,Fx.shape k=F∧(Fx.cons L k .nil).flat=xs∧(Fx.cons L k .nil).okX∧nestX xs=some (L,k):=by
 obtain ⟨-,h2, -⟩:=zt h;obtain ⟨X,rest,e1,e2,e3,o⟩:=parse_fill _ _ _ _ _ h2
 have hr:rest=[]:=by
  cases rest with
  |nil=>rfl
  |cons a b=>simp [rowO] at e2
 subst hr;rw [List.append_nil] at e3;cases X with
 |nil=>cases e1
 |cons L k m=>
  rw [Fx.shape] at e1;simp only [Fo.cons.injEq] at e1;have hm:=Fx.shape_nil e1.2;subst hm;refine ⟨L,k,e1.1,e3.symm,o,yb9 (by rw [e1.1];exact h) e3.symm⟩
theorem yb7 {xs:List (Int × List Nd)} {F:Fo} (h:nest (rowO xs)=some F):xs.length≤12:=by
 have :=(zt h).1;rw [zm9] at this;exact this
end Pl
end
section
open Go.RowKit
namespace Pl
structure Sg where
 told:Bool
 node:Nd
 have':List Bool
def Sg.cs (s:Sg):List Value:=[.bool s.told, .string s.node.path, .int .i64 s.node.kind, .string s.node.data, .int .i64 s.node.time, .int .i64 s.node.mark]++s.have'.map .bool
def za3:Nd:=⟨⟨#[]⟩,0,⟨#[]⟩,0,0⟩
def Sg.zero:Sg:=⟨false,za3,[false,false,false,false]⟩
def zi5 (n:Nd) (m:Int):Nd:=⟨n.path,n.kind,n.data,n.time,max n.mark m⟩
def zd6 (s:Sg) (k:Nat) (n:Nd):Sg:=⟨true,zi5 (if s.told then s.node else n) n.mark,s.have'.set k (decide (n.kind=1))⟩
def zh2 (n:Nd):Bool:= !decide (n.kind=1)||decide (0<n.mark)
def upS (s:Sg):Sg:=
 if s.node.kind=0∧max (s.node.mark - 1) 0=0 then Sg.zero else ⟨s.told,⟨s.node.path,s.node.kind,s.node.data,s.node.time,max (s.node.mark - 1) 0⟩,s.have'⟩
def goD:Nat→Sg→List (Option Nd)→Sg
 |_,s,[]=>s
 |k,s,none::r=>goD (k+1) s r
 |k,s,some n::r=>if zh2 n then zd6 s k n else goD (k+1) (zd6 s k n) r
def decS (ns:List (Option Nd)):Sg:=upS (goD 0 Sg.zero ns)
def lk (L:List Nd) (p:ByteArray):Option Nd:=L.find? (fun m=>decide (m.path=p))
theorem go_step {ns:List (Option Nd)} {k:Nat} {x:Option Nd} (h:ns[k]? =some x) (j:Nat) (s:Sg):goD j s (ns.drop k)=match x with |none=>goD (j+1) s (ns.drop (k+1))|some n=>if zh2 n then zd6 s j n else goD (j+1) (zd6 s j n) (ns.drop (k+1)):=by
 have h1:=List.getElem?_eq_some_iff.1 h;rw [List.drop_eq_getElem_cons h1.1,h1.2];cases x <;> rfl
theorem go_end {ns:List (Option Nd)} {k:Nat} (h:ns.length≤k) (j:Nat) (s:Sg):goD j s (ns.drop k)=s:=by
 rw [List.drop_eq_nil_of_le h];rfl
theorem take_len (s:Sg) (k:Nat) (n:Nd):(zd6 s k n).have'.length=s.have'.length:=by simp [zd6]
theorem take_mark {s:Sg} {k:Nat} {n:Nd} (h:0≤s.node.mark∧s.node.mark≤8) (hn:0≤n.mark∧n.mark≤8):0≤(zd6 s k n).node.mark∧(zd6 s k n).node.mark≤8:=by
 unfold zd6 zi5;cases s.told <;> simp <;> omega
theorem up_len {s:Sg} (h:s.have'.length=4):(upS s).have'.length=4:=by
 unfold upS
 split
 ·rfl
 ·exact h
end Pl
end
section
namespace Pl
theorem zl6:∀a b:List UInt8,a≠b→Op.bytesLess a b= !Op.bytesLess b a:=by
 intro a
 induction a with
 |nil=>intro b h;cases b with
  |nil=>exact absurd rfl h
  |cons c b=>rfl
 |cons x a ih=>
  intro b h;cases b with
  |nil=>rfl
  |cons y b=>
   simp only [Op.bytesLess];by_cases hxy:x=y
   ·subst hxy;have hab:a≠b:=fun e=>h (by rw [e]);rw [ih b hab];simp
   ·have h1:(x==y)=false:=by simpa using hxy
    have h2:(y==x)=false:=by simpa using fun e:y=x=>hxy e.symm
    rw [h1,h2];simp only [Bool.false_and,Bool.or_false];by_cases hlt:x<y
    ·have :¬y<x:=by rw [UInt8.lt_iff_toNat_lt] at hlt ⊢;omega
     simp [hlt,this]
    ·have :y<x:=by
      rw [UInt8.lt_iff_toNat_lt] at hlt ⊢;have :x.toNat≠y.toNat:=fun e=>hxy (UInt8.toNat_inj.1 e);omega
     simp [hlt,this]
theorem less_under:∀A B:List ByteArray,(∀ (j:Nat) t,B[j]? =some t→A[j]? =some t)→za7 A B=false:=by
 intro A
 induction A with
 |nil=>intro B h;cases B with
  |nil=>rfl
  |cons b B=>have :=h 0 b rfl;cases this
 |cons a A ih=>
  intro B h;cases B with
  |nil=>rfl
  |cons b B=>
   have h0:=h 0 b rfl;simp at h0
   subst h0;rw [za7,if_pos rfl];exact ih B (fun j t ht=>by have :=h (j+1) t (by simpa using ht);simpa using this)
theorem glue_one (n:ByteArray):glue [n]=n:=by apply ze4;rw [zl7];rfl
end Pl
end
section
open Go.RowKit
namespace Pl
structure Ot where
 ok:Bool
 node:Nd
 parts:List Nat
def finO (o:Ot) (mark:Int):Ot:=⟨o.ok,⟨o.node.path,o.node.kind,o.node.data,o.node.time,max 0 (mark - 1)⟩,o.parts⟩
def zd8 (p:ByteArray) (o:Ot) (mark:Int):List (Nat × Option Nd)→Ot
 | []=>finO o mark
 |(_,none)::r=>zd8 p o mark r
 |(k,some n)::r=>
  if o.parts=[] then
   if n.kind=1 then (if 0<n.mark then finO ⟨true,⟨p,1,⟨#[]⟩,n.time,0⟩,[k]⟩ (max mark n.mark) else zd8 p ⟨true,⟨p,1,⟨#[]⟩,n.time,0⟩,[k]⟩ (max mark n.mark) r)
   else if n.kind=0 then ⟨decide (1<n.mark),⟨p,0,⟨#[]⟩,0,n.mark - 1⟩,[]⟩ else ⟨true,n,[]⟩
  else if n.kind=1 then (if 0<n.mark then finO ⟨o.ok,o.node,o.parts++[k]⟩ (max mark n.mark) else zd8 p ⟨o.ok,o.node,o.parts++[k]⟩ (max mark n.mark) r) else finO o (max mark n.mark)
def numb:Nat→List (Option Nd)→List (Nat × Option Nd)
 |_,[]=>[]
 |k,x::r=>(k,x)::numb (k+1) r
def zb5 (ks:List Nat):List Bool:=(List.range 4).map (fun j=>decide (j∈ks))
theorem parts_in {ks:List Nat} {k:Nat} (h:k<4):(zb5 ks).set k true=zb5 (ks++[k]):=by
 obtain rfl |rfl |rfl |rfl:k=0∨k=1∨k=2∨k=3:=by omega
 all_goals simp [zb5,List.range_succ]
theorem parts_out {ks:List Nat} {k:Nat} (h:k<4) (hk:k∉ks):(zb5 ks).set k false=zb5 ks:=by
 obtain rfl |rfl |rfl |rfl:k=0∨k=1∨k=2∨k=3:=by omega
 all_goals simp [zb5,List.range_succ,hk]
structure SameO (o:Ot) (s:Sg):Prop where
 told:o.ok=s.told
 node:o.ok=true→o.node=s.node
 parts:s.have'=zb5 o.parts
 dir:o.parts≠[]→o.ok=true∧o.node.kind=1
 no:o.parts=[]→o.ok=true→o.node.kind≠1
theorem yl {d:ByteArray} (h:d.size=0):d=⟨#[]⟩:=by
 cases d with
 |mk a=>have :a=#[]:=Array.size_eq_zero_iff.1 h;rw [this]
def zt4 (p:ByteArray) (ns:List (Option Nd)):Prop:=∀n,some n∈ns→zb6 n=true∧n.path=p
theorem yb5 {p:ByteArray} {t mark:Int} {ks:List Nat} (hks:ks≠[]):SameO (finO ⟨true,⟨p,1,⟨#[]⟩,t,0⟩,ks⟩ mark) (upS ⟨true,⟨p,1,⟨#[]⟩,t,mark⟩,zb5 ks⟩):=by
 have hu:upS ⟨true,⟨p,1,⟨#[]⟩,t,mark⟩,zb5 ks⟩=⟨true,⟨p,1,⟨#[]⟩,t,max (mark - 1) 0⟩,zb5 ks⟩:=by
  unfold upS;rw [if_neg (by simp)]
 rw [hu];refine ⟨rfl,fun _=>?_,rfl,fun _=>⟨rfl,rfl⟩,fun h=>absurd h hks⟩;simp only [finO];rw [Int.max_comm]
theorem pick_dirs (p:ByteArray):∀ (ns:List (Option Nd)) (k:Nat) (t mark:Int) (ks:List Nat),zt4 p ns→k+ns.length≤4→ks≠[]→(∀j∈ks,j<k)→0≤mark→
  SameO (zd8 p ⟨true,⟨p,1,⟨#[]⟩,t,0⟩,ks⟩ mark (numb k ns)) (upS (goD k ⟨true,⟨p,1,⟨#[]⟩,t,mark⟩,zb5 ks⟩ ns)):=by
 intro ns
 induction ns with
 |nil=>intro k t mark ks _ _ hks _ hm;exact yb5 hks
 |cons x ns ih=>
  intro k t mark ks hr hl hks hlt hm;have hr':zt4 p ns:=fun n hn=>hr n (List.mem_cons_of_mem _ hn);simp only [List.length_cons] at hl;cases x with
  |none=>exact ih (k+1) t mark ks hr' (by omega) hks (fun j hj=>Nat.lt_succ_of_lt (hlt j hj)) hm
  |some n=>
   have hnk:k∉ks:=fun h=>absurd (hlt k h) (Nat.lt_irrefl _);have hm2:0≤max mark n.mark:=by omega
   simp only [numb,zd8,goD];rw [if_neg hks];by_cases hk:n.kind=1
   ·have htk:zd6 ⟨true,⟨p,1,⟨#[]⟩,t,mark⟩,zb5 ks⟩ k n=⟨true,⟨p,1,⟨#[]⟩,t,max mark n.mark⟩,zb5 (ks++[k])⟩:=by
     simp only [zd6,zi5,if_true,hk,decide_true];rw [parts_in (by omega)]
    rw [htk,if_pos hk];by_cases hmk:0<n.mark
    ·have hst:zh2 n=true:=by simp [zh2,hmk]
     rw [if_pos hmk,hst,if_pos rfl];exact yb5 (by simp)
    ·have hst:zh2 n=false:=by simp [zh2,hmk,hk]
     rw [if_neg hmk,hst,if_neg (by decide)]
     exact ih (k+1) t _ (ks++[k]) hr' (by omega) (by simp) (fun j hj=>by
      rcases List.mem_append.1 hj with h|h
      ·exact Nat.lt_succ_of_lt (hlt j h)
      ·simp at h;omega) hm2
   ·have htk:zd6 ⟨true,⟨p,1,⟨#[]⟩,t,mark⟩,zb5 ks⟩ k n=⟨true,⟨p,1,⟨#[]⟩,t,max mark n.mark⟩,zb5 ks⟩:=by
     simp only [zd6,zi5,if_true,hk,decide_false];rw [parts_out (by omega) hnk]
    have hst:zh2 n=true:=by simp [zh2,hk]
    rw [htk,if_neg hk,hst,if_pos rfl];exact yb5 hks
theorem pick_same (p:ByteArray):∀ (ns:List (Option Nd)) (k:Nat),zt4 p ns→k+ns.length≤4→SameO (zd8 p ⟨false,za3,[]⟩ 0 (numb k ns)) (upS (goD k ⟨false,za3,zb5 []⟩ ns)):=by
 intro ns
 induction ns with
 |nil=>
  intro k _ _
  have hu:upS (goD k ⟨false,za3,zb5 []⟩ [])=Sg.zero:=by
   show upS ⟨false,za3,zb5 []⟩=Sg.zero;unfold upS;rw [if_pos ⟨rfl,by show max ((0:Int) - 1) 0=0;decide⟩]
  rw [hu];exact ⟨rfl,fun h=>(by cases h),rfl,fun h=>absurd rfl h,fun _ h=>(by cases h)⟩
 |cons x ns ih=>
  intro k hr hl;have hr':zt4 p ns:=fun n hn=>hr n (List.mem_cons_of_mem _ hn);simp only [List.length_cons] at hl;cases x with
  |none=>exact ih (k+1) hr' (by omega)
  |some n=>
   obtain ⟨hb,hp⟩:=hr n List.mem_cons_self;obtain ⟨-, -,hmk8,hkd⟩:=zu3 hb;obtain ⟨np,nk,nd,nt,nm⟩:=n;simp only at hp hmk8;subst hp;have hnm:max nm nm=nm:=by omega
   have hnk:k∉([]:List Nat):=by simp
   simp only [numb,zd8,goD,if_true];by_cases hk:nk=1
   ·subst hk
    have hd:nd=⟨#[]⟩:=by
     simp [zj0] at hkd
     first |exact hkd|exact yl hkd
    subst hd
    have htk:zd6 ⟨false,za3,zb5 []⟩ k ⟨np,1,⟨#[]⟩,nt,nm⟩=⟨true,⟨np,1,⟨#[]⟩,nt,nm⟩,zb5 ([]++[k])⟩:=by
     simp only [zd6,zi5,Bool.false_eq_true,if_false,decide_true,hnm];rw [parts_in (by omega)]
    have hm0:max 0 nm=nm:=by omega
    rw [htk,hm0,List.nil_append,if_pos (rfl:(1:Int)=1)];by_cases hmk:0<nm
    ·have hst:zh2 ⟨np,1,⟨#[]⟩,nt,nm⟩=true:=by simp [zh2,hmk]
     rw [if_pos hmk,hst,if_pos rfl];exact yb5 (by simp)
    ·have hst:zh2 ⟨np,1,⟨#[]⟩,nt,nm⟩=false:=by simp [zh2,hmk]
     rw [if_neg hmk,hst,if_neg (by decide)];exact pick_dirs np ns (k+1) nt nm [k] hr' (by omega) (by simp) (fun j hj=>by simp at hj;omega) hmk8.1
   ·have htk:zd6 ⟨false,za3,zb5 []⟩ k ⟨np,nk,nd,nt,nm⟩=⟨true,⟨np,nk,nd,nt,nm⟩,zb5 []⟩:=by
     simp only [zd6,zi5,Bool.false_eq_true,if_false,hk,decide_false,hnm];rw [parts_out (by omega) hnk]
    have hst:zh2 ⟨np,nk,nd,nt,nm⟩=true:=by simp [zh2,hk]
    rw [htk,if_neg hk,hst,if_pos rfl];by_cases hz:nk=0
    ·subst hz;simp [zj0] at hkd
     obtain ⟨⟨hd,ht⟩,hm⟩:=hkd;have hd2:nd=⟨#[]⟩:=by first |exact hd|exact yl hd
     subst hd2 ht;rw [if_pos rfl];by_cases h1:nm=1
     ·subst h1
      have hu:upS ⟨true,⟨np,0,⟨#[]⟩,0,1⟩,zb5 []⟩=Sg.zero:=by
       unfold upS;rw [if_pos ⟨rfl,by show max ((1:Int) - 1) 0=0;decide⟩]
      rw [hu];exact ⟨rfl,fun h=>(by cases h),rfl,fun h=>absurd rfl h,fun _ h=>(by cases h)⟩
     ·have hu:upS ⟨true,⟨np,0,⟨#[]⟩,0,nm⟩,zb5 []⟩=⟨true,⟨np,0,⟨#[]⟩,0,nm - 1⟩,zb5 []⟩:=by
       unfold upS;rw [if_neg (by simp only;omega),show max (nm - 1) 0=nm - 1 by omega]
      rw [hu];exact ⟨by simp;omega,fun _=>rfl,rfl,fun h=>absurd rfl h,fun _ _=>(by show (0:Int)≠1;decide)⟩
    ·have h2:nm=0:=by
      simp [zj0,hz,hk] at hkd
      exact hkd.2
     subst h2
     have hu:upS ⟨true,⟨np,nk,nd,nt,0⟩,zb5 []⟩=⟨true,⟨np,nk,nd,nt,0⟩,zb5 []⟩:=by
      unfold upS;rw [if_neg (fun h=>hz h.1)];rfl
     rw [hu,if_neg hz];exact ⟨rfl,fun _=>rfl,rfl,fun h=>absurd rfl h,fun _ _=>hk⟩
theorem pick_dec {p:ByteArray} {ns:List (Option Nd)} (hr:zt4 p ns) (hl:ns.length≤4):SameO (zd8 p ⟨false,za3,[]⟩ 0 (numb 0 ns)) (decS ns):=pick_same p ns 0 hr (by omega)
end Pl
end
end Go.Proofs.YtbomeifgfalmdaaGreatDoor
