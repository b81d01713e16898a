/- Several texts of one claim in one file: Plain, PlainPath, PlainNode, PlainGlue, PlainPar, PlainR, PlainLess, PlainTree, Kit, PlainLaw, PlainSight, PlainPick, PlainPickQ, PlainGetV, PlainPut, PlainPutP, PlainBelow, PlainOff, PlainNest, PlainItem, PlainFx, PlainKid, PlainSeen, PlainAsk, PlainNames, PlainIns, PlainNamesK, PlainTreeI, PlainNestX, PlainPlQ, PlainPl, PlainParts, PlainPutM. -/
import Derived.Deep.RegionHeld3
import Derived.Test.YthdhhcgopfgcbaaGreatDoorProg
import Derived.WalkSpells
import Derived.Lib.OthersKept
import Derived.RangeFuncNested
import Derived.RangeFuncBound
import Derived.Shelf.RegionOpen
import Derived.OwnWalkIn
import Derived.LoopNIn
import Derived.LoopIn
import Derived.Laws.EntriesVeiled
namespace Go.Proofs.YthdhhcgopfgcbaaGreatDoor
section
namespace Pl

def encF:Nat→Nat→List UInt8
 |0,u=>[UInt8.ofNat u]
 |f+1,u=>if u<128 then [UInt8.ofNat u] else UInt8.ofNat (u % 128+128)::encF f (u / 128)
def enc (u:Nat):List UInt8:=encF u u
theorem encF_same (n:Nat):∀u f g,u≤n→u≤f→u≤g→encF f u=encF g u:=by
 induction n with
 |zero=>
  intro u f g hu _ _;obtain rfl:u=0:=by omega
  cases f <;> cases g <;> simp [encF]
 |succ n ih=>
  intro u f g hu hf hg;by_cases h:u<128
  ·cases f <;> cases g <;> simp [encF,h]
  ·obtain ⟨f,rfl⟩:∃f',f=f'+1:=⟨f - 1,by omega⟩;obtain ⟨g,rfl⟩:∃g',g=g'+1:=⟨g - 1,by omega⟩;rw [encF,encF,if_neg h,if_neg h,ih (u / 128) f g (by omega) (by omega) (by omega)]

theorem enc_small {u:Nat} (h:u<128):enc u=[UInt8.ofNat u]:=by
 unfold enc;cases u with
 |zero=>rfl
 |succ u=>rw [encF,if_pos h]
theorem enc_big {u:Nat} (h:128≤u):enc u=UInt8.ofNat (u % 128+128)::enc (u / 128):=by
 obtain ⟨f,hf⟩:∃f,u=f+1:=⟨u - 1,by omega⟩
 have e:encF u u=UInt8.ofNat (u % 128+128)::encF f (u / 128):=by
  rw [show encF u u=encF (f+1) u by rw [←hf],encF,if_neg (Nat.not_lt.2 h)]
 unfold enc;rw [e,encF_same f (u / 128) f (u / 128) (by omega) (by omega) (Nat.le_refl _)]

def zr2 (u:Nat):Nat→List UInt8
 |0=>[]
 |k+1=>zr2 u k++[UInt8.ofNat (u / 128 ^ k % 128+128)]
theorem zl5 (u k:Nat):(zr2 u k).length=k:=by
 induction k with
 |zero=>rfl
 |succ k ih=>simp [zr2,ih]
theorem enc_split (u k:Nat) (h:∀j,j<k→128≤u / 128 ^ j):enc u=zr2 u k++enc (u / 128 ^ k):=by
 induction k with
 |zero=>simp [zr2]
 |succ k ih=>
  rw [ih (fun j hj=>h j (by omega)),enc_big (h k (by omega)),zr2,Nat.div_div_eq_div_mul,Nat.pow_succ];simp

structure zs4 (u k X:Nat) (C:Array Value):Prop where
 rest:X=u / 128 ^ k
 big:∀j,j<k→128≤u / 128 ^ j
 cell:∀j,j<k→C[j]? =some (.int .u8 ((u / 128 ^ j % 128+128:Nat):Int))
theorem zs4.start (u:Nat) (C:Array Value):zs4 u 0 u C:=⟨by simp,fun _ h=>absurd h (by omega),fun _ h=>absurd h (by omega)⟩
theorem lt_nine {u k X:Nat} (h3:X=u / 128 ^ k) (hX:128≤X) (hu:u<18446744073709551616):k<9:=by
 rcases Nat.lt_or_ge k 9 with h9|h9
 ·exact h9
 ·have h1:128 ^ 9≤128 ^ k:=Nat.pow_le_pow_right (by omega) h9;have h2:u / 128 ^ k≤u / 128 ^ 9:=Nat.div_le_div_left h1 (by decide);have h4:u / 128 ^ 9<2:=by omega
  omega
theorem zs4.lt {u k X:Nat} {C:Array Value} (h:zs4 u k X C) (hX:128≤X) (hu:u<18446744073709551616):k<9:=lt_nine h.rest hX hu
theorem zs4.step {u k X:Nat} {C:Array Value} (h:zs4 u k X C) (hX:128≤X) (hk:k<C.size):
  zs4 u (k+1) (X / 128) (C.setIfInBounds k (.int .u8 ((X % 128+128:Nat):Int))):=by
 refine ⟨?_,?_,?_⟩
 ·rw [h.rest,Nat.div_div_eq_div_mul,Nat.pow_succ]
 ·intro j hj
  rcases Nat.lt_succ_iff_lt_or_eq.1 hj with h'|rfl
  ·exact h.big j h'
  ·rw [←h.rest];exact hX
 ·intro j hj
  rcases Nat.lt_succ_iff_lt_or_eq.1 hj with h'|rfl
  ·rw [Array.getElem?_setIfInBounds_ne (by omega)];exact h.cell j h'
  ·rw [Array.getElem?_setIfInBounds_self_of_lt hk,h.rest]

theorem encTo_get (u k j:Nat) (h:j<k):(zr2 u k)[j]? =some (UInt8.ofNat (u / 128 ^ j % 128+128)):=by
 induction k with
 |zero=>omega
 |succ k ih=>
  rw [zr2]
  rcases Nat.lt_succ_iff_lt_or_eq.1 h with h'|rfl
  ·rw [List.getElem?_append_left (by rw [zl5];exact h')];exact ih h'
  ·rw [List.getElem?_append_right (by rw [zl5];exact Nat.le_refl _),zl5];simp
theorem zs4.enc {u k X:Nat} {C:Array Value} (h:zs4 u k X C) (hX:X<128):enc u=zr2 u k++[UInt8.ofNat X]:=by
 rw [enc_split u k h.big,←h.rest,enc_small hX]
theorem zs4.length {u k X:Nat} {C:Array Value} (h:zs4 u k X C) (hX:X<128):(Pl.enc u).length=k+1:=by
 rw [h.enc hX];simp [zl5]
theorem zs4.bytes {u k X:Nat} {C:Array Value} (h:zs4 u k X C) (hX:X<128) (hk:k<C.size) (j:Nat) (hj:j<(Pl.enc u).length):
  (C.setIfInBounds k (.int .u8 (X:Int)))[j]? =some (.int .u8 ((Pl.enc u)[j].toNat:Int)):=by
 have hl:=h.length hX;have hg:(Pl.enc u)[j]? =some (Pl.enc u)[j]:=List.getElem?_eq_getElem hj;generalize (Pl.enc u)[j]=b at hg ⊢;rw [h.enc hX] at hg
 rcases Nat.lt_or_ge j k with hjk|hjk
 ·rw [List.getElem?_append_left (by rw [zl5];exact hjk),encTo_get u k j hjk] at hg;have hg:=(Option.some.inj hg).symm;rw [Array.getElem?_setIfInBounds_ne (by omega),h.cell j hjk];subst hg;simp [UInt8.toNat_ofNat']
  omega
 ·obtain rfl:j=k:=by omega
  rw [List.getElem?_append_right (by rw [zl5];exact Nat.le_refl _),zl5] at hg;have hg:UInt8.ofNat X=b:=by simpa using hg
  rw [Array.getElem?_setIfInBounds_self_of_lt hk];subst hg;simp [UInt8.toNat_ofNat']
  omega

def zh4 (b:UInt8):Value:= .int .u8 (b.toNat:Int)
structure zp6 (u k X:Nat):Prop where
 rest:X=u / 128 ^ k
 big:∀j,j<k→128≤u / 128 ^ j
theorem zp6.start (u:Nat):zp6 u 0 u:=⟨by simp,fun _ h=>absurd h (by omega)⟩
theorem zp6.lt {u k X:Nat} (h:zp6 u k X) (hX:128≤X) (hu:u<18446744073709551616):k<9:=lt_nine h.rest hX hu
theorem zp6.step {u k X:Nat} (h:zp6 u k X) (hX:128≤X):zp6 u (k+1) (X / 128):=by
 refine ⟨?_,?_⟩
 ·rw [h.rest,Nat.div_div_eq_div_mul,Nat.pow_succ]
 ·intro j hj
  rcases Nat.lt_succ_iff_lt_or_eq.1 hj with h'|rfl
  ·exact h.big j h'
  ·rw [←h.rest];exact hX
theorem zp6.enc {u k X:Nat} (h:zp6 u k X) (hX:X<128):Pl.enc u=zr2 u k++[UInt8.ofNat X]:=by
 rw [enc_split u k h.big,←h.rest,enc_small hX]
theorem zp6.cells {u k X:Nat} (h:zp6 u k X):(zr2 u k).map zh4++[.int .u8 ((X:Int) % 128+128)]=(zr2 u (k+1)).map zh4:=by
 rw [zr2,List.map_append,←h.rest]
 congr 1
 simp [zh4,UInt8.toNat_ofNat']
 omega
theorem zp6.last {u k X:Nat} (h:zp6 u k X) (hX:X<128):(zr2 u k).map zh4++[.int .u8 (X:Int)]=(Pl.enc u).map zh4:=by
 rw [h.enc hX,List.map_append]
 congr 1
 simp [zh4,UInt8.toNat_ofNat']
 omega
theorem zp6.length {u k X:Nat} (h:zp6 u k X) (hX:X<128):(Pl.enc u).length=k+1:=by rw [h.enc hX];simp [zl5]

def tot (ts:List ByteArray):Nat:=(ts.map ByteArray.size).sum
def cat (ts:List ByteArray):List UInt8:=(ts.map fun t=>t.data.toList).flatten
theorem yg (ts:List ByteArray):(cat ts).length=tot ts:=by
 induction ts with
 |nil=>rfl
 |cons t ts ih=>
  have h1:(cat (t::ts)).length=t.data.toList.length+(cat ts).length:=by simp [cat]
  have h2:tot (t::ts)=t.size+tot ts:=by simp [tot]
  rw [h1,h2,ih];rfl
theorem tot_snoc (ts:List ByteArray) (k:Nat) (t:ByteArray) (h:ts[k]? =some t):tot (ts.take (k+1))=tot (ts.take k)+t.size:=by
 rw [List.take_add_one,h];simp [tot]
theorem cat_snoc (ts:List ByteArray) (k:Nat) (t:ByteArray) (h:ts[k]? =some t):cat (ts.take (k+1))=cat (ts.take k)++t.data.toList:=by
 rw [List.take_add_one,h];simp [cat]
theorem tot_le (ts:List ByteArray) (k:Nat):tot (ts.take k)≤tot ts:=by
 have h:tot ts=tot (ts.take k)+tot (ts.drop k):=by
  have e:∀a b:List ByteArray,tot (a++b)=tot a+tot b:=fun a b=>by simp [tot]
  have :=e (ts.take k) (ts.drop k)
  rwa [List.take_append_drop] at this
 omega
theorem cat_one (a:ByteArray):cat [a]=a.data.toList:=by simp [cat]
theorem tot_one (a:ByteArray):tot [a]=a.size:=by simp [tot]
theorem ym6 (a:List UInt8) (s:ByteArray):(⟨a.toArray⟩:ByteArray)++s=⟨(a++s.data.toList).toArray⟩:=by
 apply ByteArray.ext
 simp
theorem part_step {ts:List ByteArray} {k:Nat} {t:ByteArray} {cur:Array Value} (h:ts[k]? =some t)
  (hp:cur.toList.take (tot (ts.take k))=(cat (ts.take k)).map zh4):
  (cur.toList.take (tot (ts.take k))++t.data.toList.map zh4++cur.toList.drop (tot (ts.take k)+t.size)).toArray.toList.take (tot (ts.take (k+1)))=(cat (ts.take (k+1))).map zh4:=by
 have hl:(cat (ts.take (k+1))).length=tot (ts.take (k+1)):=yg _;rw [hp,←List.map_append,←cat_snoc ts k t h,List.take_append_of_le_length (by rw [List.length_map,hl];exact Nat.le_refl _),List.take_of_length_le (by rw [List.length_map,hl];exact Nat.le_refl _)]

def four (n:Nat):List UInt8:=[UInt8.ofNat n,UInt8.ofNat (n / 256),UInt8.ofNat (n / 65536),UInt8.ofNat (n / 16777216)]
theorem take_snoc (s:ByteArray) (k:Nat) (h:k<s.size):s.data.toList.take (k+1)=s.data.toList.take k++[s[k]]:=by
 rw [List.take_succ_eq_append_getElem (by simpa using h)];rfl

abbrev okAt (j n:Nat):Prop:=(97≤n∧n≤122)∨(j≠0∧((48≤n∧n≤57)∨n=95))
def ze (s:ByteArray):Bool:=decide (1≤s.size∧s.size≤20∧∀j,j<s.size→okAt j ((s.data.toList.getD j 0).toNat))
theorem zr7 (s:ByteArray) (k:Nat) (h:k<s.size):s.data.toList.getD k 0=s[k]:=by
 have h':k<s.data.size:=h;simp only [List.getD,Array.getElem?_toList];rw [Array.getElem?_eq_getElem h'];rfl
theorem yj1 {s:ByteArray} (h:s.size<1):ze s=false:=decide_eq_false (by omega)
theorem zz1 {s:ByteArray} (h:20<s.size):ze s=false:=decide_eq_false (by omega)
theorem zy0 {s:ByteArray} (k:Nat) (h:k<s.size) (hb:¬okAt k s[k].toNat):ze s=false:=
 decide_eq_false (fun ⟨_,_,ha⟩=>hb (by have :=ha k h;rwa [zr7 s k h] at this))
theorem yl5 {s:ByteArray} (h1:¬s.size<1) (h2:¬20<s.size) (h:∀j,j<s.size→okAt j ((s.data.toList.getD j 0).toNat)):ze s=true:=
 decide_eq_true ⟨by omega,by omega,h⟩
theorem ye7 {s:ByteArray} {k:Nat} (h:∀j,j<k→okAt j ((s.data.toList.getD j 0).toNat)) (hk:k<s.size) (ho:okAt k s[k].toNat):
  ∀j,j<k+1→okAt j ((s.data.toList.getD j 0).toNat):=by
 intro j hj
 rcases Nat.lt_succ_iff_lt_or_eq.1 hj with h'|rfl
 ·exact h j h'
 ·rw [zr7 s j hk];exact ho

theorem kinds (n:Int):(97≤n∧n≤122)∨(¬97≤n∧48≤n∧n≤57∧(n !=95)=true)∨(¬97≤n∧48≤n∧¬n≤57∧(n !=95)=true)∨
  (¬97≤n∧48≤n∧¬n≤57∧(n !=95)=false)∨(¬97≤n∧¬48≤n∧(n !=95)=true)∨(97≤n∧¬n≤122∧48≤n∧¬n≤57∧(n !=95)=true):=by
 simp only [bne_iff_ne,ne_eq,bne_eq_false_iff_eq];omega

end Pl
end
section
namespace Pl
def cutF (s:ByteArray) (b:Nat):Nat→Nat→Nat→List ByteArray
 |0,from_,_=>[s.extract from_ s.size]
 |f+1,from_,k=>if (s.data.toList.getD k 0).toNat=b then s.extract from_ k::cutF s b f (k+1) (k+1) else cutF s b f from_ (k+1)
def cut (s:ByteArray) (b:Nat):List ByteArray:=cutF s b s.size 0 0
theorem cutF_hit {s:ByteArray} {b f from_ k:Nat} (h:k<s.size) (hb:s[k].toNat=b):cutF s b (f+1) from_ k=s.extract from_ k::cutF s b f (k+1) (k+1):=by
 rw [cutF,zr7 s k h,if_pos hb]
theorem yi6 {s:ByteArray} {b f from_ k:Nat} (h:k<s.size) (hb:s[k].toNat≠b):cutF s b (f+1) from_ k=cutF s b f from_ (k+1):=by
 rw [cutF,zr7 s k h,if_neg hb]
def names (s:ByteArray):List ByteArray:=if s.size=0 then [] else cut s 47
def za1 (s:ByteArray):Bool:=decide (s.size≤200)&&(names s).all ze&&decide ((names s).length≤6)
theorem yg7 {s:ByteArray} (h:200<s.size):za1 s=false:=by simp [za1];omega
theorem pathB_bad {s:ByteArray} {k:Nat} {t:ByteArray} (h:(names s)[k]? =some t) (hb:ze t=false):za1 s=false:=by
 have hm:t∈names s:=List.mem_of_getElem? h
 have :(names s).all ze=false:=by
  rw [List.all_eq_false];exact ⟨t,hm,by simp [hb]⟩
 simp [za1,this]
theorem pathB_good {s:ByteArray} (h:s.size≤200) (ha:∀ (j:Nat) t,(names s)[j]? =some t→ze t=true):za1 s=decide ((names s).length≤6):=by
 have :(names s).all ze=true:=by
  rw [List.all_eq_true];intro t ht;obtain ⟨j,hj⟩:=List.mem_iff_getElem?.1 ht;exact ha j t hj
 simp [za1,this,h]
theorem yj3 (s:ByteArray) (b:Nat):∀f fr k,(cutF s b f fr k).length≤f+1:=by
 intro f
 induction f with
 |zero=>intro fr k;simp [cutF]
 |succ f ih=>
  intro fr k;rw [cutF]
  split
  ·have :=ih (k+1) (k+1);simp;omega
  ·have :=ih fr (k+1);omega
theorem yb0 (s:ByteArray):(names s).length≤s.size+1:=by
 unfold names
 split
 ·simp
 ·exact yj3 s 47 s.size 0 0
theorem cutF_size (s:ByteArray) (b:Nat):∀f fr k t,t∈cutF s b f fr k→t.size≤s.size:=by
 intro f
 induction f with
 |zero=>intro fr k t ht;simp [cutF] at ht;subst ht;simp
 |succ f ih=>
  intro fr k t ht;rw [cutF] at ht
  split at ht
  ·rcases List.mem_cons.1 ht with rfl |ht
   ·simp;omega
   ·exact ih _ _ t ht
  ·exact ih _ _ t ht
theorem names_size {s:ByteArray} {k:Nat} {t:ByteArray} (h:(names s)[k]? =some t):t.size≤s.size:=by
 have hm:t∈names s:=List.mem_of_getElem? h;unfold names at hm
 split at hm
 ·simp at hm
 ·exact cutF_size s 47 _ _ _ t hm
def zf7 (s:ByteArray):Nat→Int
 |0=> -1
 |k+1=>if (s.data.toList.getD k 0).toNat=47 then (k:Int) else zf7 s k
theorem slash_hit {s:ByteArray} {k:Nat} (h:k<s.size) (hb:s[k].toNat=47):zf7 s (k+1)=(k:Int):=by
 rw [zf7,zr7 s k h,if_pos hb]
theorem yl1 {s:ByteArray} {k:Nat} (h:k<s.size) (hb:s[k].toNat≠47):zf7 s (k+1)=zf7 s k:=by
 rw [zf7,zr7 s k h,if_neg hb]
theorem slash_lt (s:ByteArray) (k:Nat): -1≤zf7 s k∧zf7 s k<(k:Int):=by
 induction k with
 |zero=>simp [zf7]
 |succ k ih=>
  rw [zf7]
  split <;> omega
def parent (s:ByteArray):ByteArray:=if zf7 s s.size<0 then ⟨#[]⟩ else s.extract 0 (zf7 s s.size).toNat
end Pl
end
section
namespace Pl
structure Nd where
 path:ByteArray
 kind:Int
 data:ByteArray
 time:Int
 mark:Int
def Nd.cells (n:Nd):List Value:=[.string n.path, .int .i64 n.kind, .string n.data, .int .i64 n.time, .int .i64 n.mark]
def Nd.val (n:Nd):Value:= .agg #[.string n.path, .int .i64 n.kind, .string n.data, .int .i64 n.time, .int .i64 n.mark]
def zj9 (n:Nd):Bool:=
 if n.kind=0 then decide (n.data.size=0)&&decide (n.time=0)&&decide (1≤n.mark)
 else if n.kind=1 then decide (n.data.size=0)
 else if n.kind=2 then decide (n.mark=0) else false
def za7 (n:Nd):Bool:=decide (n.path.size≠0)&&za1 n.path&&decide (n.data.size≤60)&&decide (0≤n.time∧n.time≤1000000)&&decide (0≤n.mark∧n.mark≤8)&&zj9 n
theorem node_root {n:Nd} (h:n.path.size=0):za7 n=false:=by simp [za7,h]
theorem node_path {n:Nd} (h:za1 n.path=false):za7 n=false:=by simp [za7,h]
theorem node_data {n:Nd} (h:60<n.data.size):za7 n=false:=by
 have :decide (n.data.size≤60)=false:=by simp;omega
 simp [za7,this]
theorem node_time {n:Nd} (h:¬ (0≤n.time∧n.time≤1000000)):za7 n=false:=by
 have :decide (0≤n.time∧n.time≤1000000)=false:=by simpa using h
 unfold za7;rw [this];simp
theorem node_mark {n:Nd} (h:¬ (0≤n.mark∧n.mark≤8)):za7 n=false:=by
 have :decide (0≤n.mark∧n.mark≤8)=false:=by simpa using h
 unfold za7;rw [this];simp
theorem node_kind {n:Nd} (h0:n.path.size≠0) (h1:za1 n.path=true) (h2:n.data.size≤60) (h3:0≤n.time∧n.time≤1000000) (h4:0≤n.mark∧n.mark≤8):za7 n=zj9 n:=by
 have e3:decide (0≤n.time∧n.time≤1000000)=true:=by simpa using h3
 have e4:decide (0≤n.mark∧n.mark≤8)=true:=by simpa using h4
 unfold za7;rw [e3,e4];simp [h0,h1,h2]
def zt0 (n:Nd):Bool:=decide (n.data.size≤60)&&decide (0≤n.time∧n.time≤1000000)&&decide (0≤n.mark∧n.mark≤8)&&zj9 n
theorem cont_data {n:Nd} (h:60<n.data.size):zt0 n=false:=by
 have :decide (n.data.size≤60)=false:=by simp;omega
 simp [zt0,this]
theorem cont_time {n:Nd} (h:¬ (0≤n.time∧n.time≤1000000)):zt0 n=false:=by
 have :decide (0≤n.time∧n.time≤1000000)=false:=by simpa using h
 unfold zt0;rw [this];simp
theorem cont_mark {n:Nd} (h:¬ (0≤n.mark∧n.mark≤8)):zt0 n=false:=by
 have :decide (0≤n.mark∧n.mark≤8)=false:=by simpa using h
 unfold zt0;rw [this];simp
theorem cont_kind {n:Nd} (h2:n.data.size≤60) (h3:0≤n.time∧n.time≤1000000) (h4:0≤n.mark∧n.mark≤8):zt0 n=zj9 n:=by
 have e3:decide (0≤n.time∧n.time≤1000000)=true:=by simpa using h3
 have e4:decide (0≤n.mark∧n.mark≤8)=true:=by simpa using h4
 unfold zt0;rw [e3,e4];simp [h2]
theorem node_cont {n:Nd} (h0:n.path.size≠0) (h1:za1 n.path=true):za7 n=zt0 n:=by
 unfold za7 zt0;simp [h0,h1,Bool.and_assoc]
end Pl
end
section
namespace Pl
def by_ (t:ByteArray):List UInt8:=t.data.toList
theorem zi3 {a b:ByteArray} (h:by_ a=by_ b):a=b:=by
 apply ByteArray.ext;exact Array.toList_inj.1 h
theorem zh6 (t:ByteArray):(by_ t).length=t.size:=Array.length_toList
theorem zs8 (t:ByteArray) (a b:Nat):by_ (t.extract a b)=((by_ t).drop a).take (b - a):=by
 simp [by_,ByteArray.data_extract,Array.toList_extract,List.extract]
theorem by_mk (l:List UInt8):by_ ⟨l.toArray⟩=l:=by simp [by_]
def cutL:List UInt8→List (List UInt8)
 | []=>[[]]
 |b::l=>if b=47 then []::cutL l else match cutL l with | []=>[[b]]|h::t=>(b::h)::t
def zh7:List (List UInt8)→List UInt8
 | []=>[]
 | [a]=>a
 |a::b::r=>a++47::zh7 (b::r)
theorem cutL_ex (l:List UInt8):∃h t,cutL l=h::t:=by
 induction l with
 |nil=>exact ⟨_,_,rfl⟩
 |cons b l ih=>
  obtain ⟨h,t,e⟩:=ih;rw [cutL]
  split
  ·exact ⟨_,_,rfl⟩
  ·rw [e];exact ⟨_,_,rfl⟩
theorem yf0 (l:List UInt8):cutL l≠[]:=by obtain ⟨h,t,e⟩:=cutL_ex l;rw [e];exact List.cons_ne_nil _ _
theorem yc2 (l:List UInt8):cutL (47::l)=[]::cutL l:=by rw [cutL,if_pos rfl]
theorem zy3 {b:UInt8} {l h:List UInt8} {t:List (List UInt8)} (hb:b≠47) (e:cutL l=h::t):cutL (b::l)=(b::h)::t:=by
 rw [cutL,if_neg hb,e]
theorem zv3 (a:List UInt8) {L:List (List UInt8)} (h:L≠[]):zh7 (a::L)=a++47::zh7 L:=by
 cases L with
 |nil=>exact absurd rfl h
 |cons b r=>rw [zh7]
theorem glueL_push (b:UInt8) (h:List UInt8) (t:List (List UInt8)):zh7 ((b::h)::t)=b::zh7 (h::t):=by
 cases t with
 |nil=>simp [zh7]
 |cons c r=>simp [zh7]
theorem glue_cutL (l:List UInt8):zh7 (cutL l)=l:=by
 induction l with
 |nil=>rfl
 |cons b l ih=>
  by_cases hb:b=47
  ·subst hb;rw [yc2,zv3 _ (yf0 l),ih];rfl
  ·obtain ⟨h,t,e⟩:=cutL_ex l;rw [zy3 hb e,glueL_push,←e,ih]
theorem yk2 (a b:List UInt8):cutL (a++47::b)=cutL a++cutL b:=by
 induction a with
 |nil=>rw [List.nil_append,yc2];rfl
 |cons c a ih=>
  by_cases hc:c=47
  ·subst hc;rw [List.cons_append,yc2,ih,yc2];rfl
  ·obtain ⟨h,t,e⟩:=cutL_ex a;rw [List.cons_append,zy3 hc e,zy3 (t:=t++cutL b) hc (by rw [ih,e];rfl)];rfl
theorem zy9 {a:List UInt8} (h:(47:UInt8)∉a):cutL a=[a]:=by
 induction a with
 |nil=>rfl
 |cons c a ih=>
  rw [List.mem_cons,not_or] at h;rw [zy3 (fun e=>h.1 e.symm) (ih h.2)]
theorem cut_glueL {L:List (List UInt8)} (h0:L≠[]) (h:∀t∈L,(47:UInt8)∉t):cutL (zh7 L)=L:=by
 induction L with
 |nil=>exact absurd rfl h0
 |cons a L ih=>
  by_cases hL:L=[]
  ·subst hL;exact zy9 (h a List.mem_cons_self)
  ·rw [zv3 a hL,yk2,zy9 (h a List.mem_cons_self),ih hL (fun t ht=>h t (List.mem_cons_of_mem _ ht))];rfl
theorem yb4 {A B:List (List UInt8)} (hA:A≠[]) (hB:B≠[]):zh7 (A++B)=zh7 A++47::zh7 B:=by
 induction A with
 |nil=>exact absurd rfl hA
 |cons a A ih=>
  by_cases h:A=[]
  ·subst h;exact zv3 a hB
  ·rw [List.cons_append,zv3 a (by simp [h]),ih h,zv3 a h];simp

theorem cutF_list (s:ByteArray):∀f fr k,f+k=s.size→fr≤k→∃h t,cutL ((by_ s).drop k)=h::t∧(cutF s 47 f fr k).map by_=(((by_ s).drop fr).take (k - fr)++h)::t:=by
 intro f
 induction f with
 |zero=>
  intro fr k hk hfr;refine ⟨[],[],?_,?_⟩
  ·rw [List.drop_of_length_le (by rw [zh6];omega)];rfl
  ·rw [cutF,List.map_cons,List.map_nil,zs8,List.append_nil];obtain rfl:k=s.size:=by omega
   rfl
 |succ f ih=>
  intro fr k hk hfr;have hlt:k<s.size:=by omega
  have hlt':k<(by_ s).length:=by rw [zh6];exact hlt
  have hd:(by_ s).drop k=s[k]::(by_ s).drop (k+1):=by
   rw [List.drop_eq_getElem_cons hlt'];rfl
  by_cases hb:s[k].toNat=47
  ·obtain ⟨h,t,e1,e2⟩:=ih (k+1) (k+1) (by omega) (Nat.le_refl _);have hb':s[k]=47:=UInt8.toNat_inj.1 hb;refine ⟨[],cutL ((by_ s).drop (k+1)),?_,?_⟩
   ·rw [hd,hb',yc2]
   ·rw [cutF_hit hlt hb,List.map_cons,e2,zs8,e1];simp
  ·obtain ⟨h,t,e1,e2⟩:=ih fr (k+1) (by omega) (by omega);have hb':s[k]≠47:=fun e=>hb (by rw [e];rfl);refine ⟨s[k]::h,t,?_,?_⟩
   ·rw [hd,zy3 hb' e1]
   ·rw [yi6 hlt hb,e2]
    congr 1
    have :k+1 - fr=(k - fr)+1:=by omega
    rw [this,List.take_add_one,List.getElem?_drop,Nat.add_sub_cancel' hfr,List.getElem?_eq_getElem hlt'];simp [by_]
    rfl
theorem cut_list (s:ByteArray):(cut s 47).map by_=cutL (by_ s):=by
 obtain ⟨h,t,e1,e2⟩:=cutF_list s s.size 0 0 (by omega) (Nat.le_refl _);rw [cut,e2];rw [List.drop_zero] at e1;rw [e1];simp
def zo5 (l:List UInt8):List (List UInt8):=if l=[] then [] else cutL l
theorem zh2 {s:ByteArray}:by_ s=[]↔s.size=0:=by rw [←zh6,List.length_eq_zero_iff]
theorem zl0 (s:ByteArray):(names s).map by_=zo5 (by_ s):=by
 unfold names zo5;by_cases h:s.size=0
 ·rw [if_pos h,if_pos (zh2.2 h)];rfl
 ·rw [if_neg h,if_neg (fun e=>h (zh2.1 e)),cut_list]
theorem zq6 (l:List UInt8):zh7 (zo5 l)=l:=by
 unfold zo5;split
 ·subst_vars;rfl
 ·exact glue_cutL l
def glue (ts:List ByteArray):ByteArray:=⟨(zh7 (ts.map by_)).toArray⟩
theorem zs2 (ts:List ByteArray):by_ (glue ts)=zh7 (ts.map by_):=by_mk _
theorem map_by_inj {A B:List ByteArray} (h:A.map by_=B.map by_):A=B:=by
 induction A generalizing B with
 |nil=>cases B with
  |nil=>rfl
  |cons=>simp at h
 |cons a A ih=>cases B with
  |nil=>simp at h
  |cons b B=>simp at h;rw [zi3 h.1,ih h.2]
theorem zo2 (s:ByteArray):glue (names s)=s:=by
 apply zi3;rw [zs2,zl0,zq6]
theorem zr4 {t:ByteArray} (h:ze t=true):(47:UInt8)∉by_ t∧by_ t≠[]∧1≤t.size∧t.size≤20:=by
 have h':=of_decide_eq_true h;refine ⟨fun hm=>?_,fun e=>?_,h'.1,h'.2.1⟩
 ·obtain ⟨j,hj,e⟩:=List.getElem_of_mem hm;have hj':j<t.size:=by rw [←zh6];exact hj
  have ho:=h'.2.2 j hj'
  have e2:t.data.toList.getD j 0=47:=by
   rw [zr7 t j hj'];exact e
  rw [e2] at ho;simp [okAt] at ho
 ·have :=zh2.1 e;omega
theorem zo0 {L:List ByteArray} (h:∀t∈L,ze t=true):names (glue L)=L:=by
 apply map_by_inj
 rw [zl0,zs2];cases L with
 |nil=>rfl
 |cons a L=>
  have hne:zh7 ((a::L).map by_)≠[]:=by
   have ha:=(zr4 (h a List.mem_cons_self)).2.1;cases L with
   |nil=>exact ha
   |cons b L=>simp [zh7]
  rw [zo5,if_neg hne]
  apply cut_glueL (by simp)
  intro t ht;obtain ⟨u,hu,rfl⟩:=List.mem_map.1 ht;exact (zr4 (h u hu)).1
theorem glueL_le (L:List ByteArray) (h:∀t∈L,t.size≤20):(zh7 (L.map by_)).length≤21*L.length:=by
 induction L with
 |nil=>simp [zh7]
 |cons a L ih=>
  have ha:=h a List.mem_cons_self;have ih:=ih (fun t ht=>h t (List.mem_cons_of_mem _ ht));cases L with
  |nil=>simp [zh7,zh6];omega
  |cons b L=>
   simp only [List.map_cons,zh7,List.length_append,List.length_cons,zh6] at ih ⊢;omega
theorem zy8 (L:List ByteArray) (h:∀t∈L,t.size≤20):(glue L).size≤21*L.length:=by
 rw [←zh6,zs2];exact glueL_le L h
theorem zn9 {s:ByteArray} (h:za1 s=true):(∀t∈names s,ze t=true)∧(names s).length≤6:=by
 simp [za1] at h
 exact ⟨h.1.2,h.2⟩
theorem yn3 {L:List ByteArray} (h:∀t∈L,ze t=true) (h6:L.length≤6):za1 (glue L)=true:=by
 have hs:=zy8 L (fun t ht=>(zr4 (h t ht)).2.2.2);simp [za1,zo0 h]
 exact ⟨⟨by omega,h⟩,h6⟩
theorem yd7 {s:ByteArray}:za1 s=((names s).all ze&&decide ((names s).length≤6)):=by
 by_cases h:s.size≤200
 ·simp [za1,h]
 ·have h1:za1 s=false:=yg7 (by omega);rw [h1];by_cases h2:(names s).all ze=true
  ·have h3:=List.all_eq_true.1 h2;have hs:=zy8 (names s) (fun t ht=>(zr4 (h3 t ht)).2.2.2);rw [zo2] at hs;simp;intro _;omega
  ·simp at h2;simp;intro h4;obtain ⟨x,hx,hy⟩:=h2;exact absurd (h4 x hx) (by simp [hy])
end Pl
end
section
namespace Pl
theorem by_take_succ (s:ByteArray) (k:Nat) (h:k<s.size):(by_ s).take (k+1)=(by_ s).take k++[s[k]]:=take_snoc s k h
theorem slash_split (s:ByteArray):∀k,k≤s.size→((47:UInt8)∉(by_ s).take k∧zf7 s k= -1)∨∃a b,(by_ s).take k=a++47::b∧(47:UInt8)∉b∧zf7 s k=(a.length:Int):=by
 intro k
 induction k with
 |zero=>intro _;left;simp [zf7]
 |succ k ih=>
  intro hk;have hlt:k<s.size:=by omega
  have ih:=ih (by omega);rw [by_take_succ s k hlt];by_cases hb:s[k].toNat=47
  ·right
   have hb':s[k]=47:=UInt8.toNat_inj.1 hb;refine ⟨(by_ s).take k,[],by rw [hb'],by simp,?_⟩;rw [slash_hit hlt hb,List.length_take,zh6,Nat.min_eq_left (by omega)]
  ·have hb':s[k]≠47:=fun e=>hb (by rw [e];rfl);rw [yl1 hlt hb]
   rcases ih with ⟨h1,h2⟩|⟨a,b,h1,h2,h3⟩
   ·left
    refine ⟨?_,h2⟩;rw [List.mem_append,not_or];exact ⟨h1,by simpa using fun e=>hb' e.symm⟩
   ·right
    refine ⟨a,b++[s[k]],by rw [h1];simp,?_,h3⟩;rw [List.mem_append,not_or];exact ⟨h2,by simpa using fun e=>hb' e.symm⟩
theorem yj4 (s:ByteArray):((47:UInt8)∉by_ s∧zf7 s s.size= -1)∨∃a b,by_ s=a++47::b∧(47:UInt8)∉b∧zf7 s s.size=(a.length:Int):=by
 have h:=slash_split s s.size (Nat.le_refl _)
 rwa [List.take_of_length_le (by rw [zh6];exact Nat.le_refl _)] at h
theorem yb9 {l a b:List UInt8} (h:l=a++47::b):zo5 l=cutL a++cutL b:=by
 subst h;rw [zo5,if_neg (by simp),yk2]
theorem yj8 {l:List UInt8} (h:(47:UInt8)∉l):zo5 l=if l=[] then [] else [l]:=by
 rw [zo5];split
 ·rfl
 ·exact zy9 h
def base (s:ByteArray):ByteArray:=s.extract (zf7 s s.size+1).toNat s.size
theorem zq5 (s:ByteArray):parent s=glue (names s).dropLast:=by
 apply zi3
 rw [zs2,List.map_dropLast,zl0];unfold parent
 rcases yj4 s with ⟨h1,h2⟩|⟨a,b,h1,h2,h3⟩
 ·rw [h2,if_pos (by omega),yj8 h1]
  split <;> rfl
 ·rw [h3,if_neg (by omega),zs8,yb9 h1,zy9 h2,List.dropLast_concat,glue_cutL,h1];simp
theorem base_glue (s:ByteArray):base s=glue ((names s).drop ((names s).length - 1)):=by
 apply zi3
 have hl:(names s).length=(zo5 (by_ s)).length:=by rw [←zl0,List.length_map]
 rw [zs2,List.map_drop,zl0,hl];unfold base
 rcases yj4 s with ⟨h1,h2⟩|⟨a,b,h1,h2,h3⟩
 ·rw [h2,zs8,yj8 h1]
  have e:List.take (s.size - ((-1:Int)+1).toNat) (List.drop ((-1:Int)+1).toNat (by_ s))=by_ s:=by
   simp [←zh6]
  rw [e]
  split
  ·next h=>rw [h];rfl
  ·rfl
 ·rw [h3,zs8,yb9 h1,zy9 h2];have h4:((a.length:Int)+1).toNat=a.length+1:=by omega
  have h5:s.size=a.length+1+b.length:=by rw [←zh6,h1];simp;omega
  rw [h4,h5,h1];simp [zh7]
theorem drop_last {α:Type} (L:List α):L.take (L.length - 1)=L.dropLast:=by rw [List.dropLast_eq_take]
def under (p t:ByteArray):Bool:=((names t).map by_).isPrefixOf ((names p).map by_)
theorem zv0 (p t:ByteArray):under p t=true↔(by_ t=[]∨by_ p=by_ t∨∃r,by_ p=by_ t++47::r):=by
 unfold under;rw [List.isPrefixOf_iff_prefix,zl0,zl0]
 constructor
 ·rintro ⟨R,e⟩;by_cases ht:by_ t=[]
  ·exact .inl ht
  ·right
   have e2:=congrArg zh7 e;by_cases hr:R=[]
   ·left
    subst hr;rw [List.append_nil,zq6,zq6] at e2;exact e2.symm
   ·right
    rw [yb4 (by rw [zo5,if_neg ht];exact yf0 _) hr,zq6,zq6] at e2;exact ⟨_,e2.symm⟩
 ·rintro (h|h|⟨r,h⟩)
  ·rw [h];exact List.nil_prefix
  ·rw [h];exact List.prefix_refl _
  ·by_cases ht:by_ t=[]
   ·rw [ht];exact List.nil_prefix
   ·refine ⟨cutL r,?_⟩;rw [yb9 h,zo5,if_neg ht]
def rest (p t:ByteArray):ByteArray:=glue ((names p).drop (names t).length)
def ze0 (p n:ByteArray):ByteArray:=glue (names p++[n])
theorem joinN_root {p n:ByteArray} (h:by_ p=[]):ze0 p n=n:=by
 apply zi3
 rw [ze0,zs2,List.map_append,zl0,h];rfl
theorem joinN_two {p n:ByteArray} (h:by_ p≠[]):by_ (ze0 p n)=by_ p++47::by_ n:=by
 rw [ze0,zs2,List.map_append,zl0,yb4 (by rw [zo5,if_neg h];exact yf0 _) (by simp),zq6];rfl
end Pl
end
section
namespace Pl
def zb (s:ByteArray):List ByteArray:=if za1 s then names s else []
theorem yd1 {s:ByteArray} (h:za1 s=false):zb s=[]:=by rw [zb,h];rfl
theorem zc1 {s:ByteArray} (h:za1 s=true):zb s=names s:=by rw [zb,h];rfl
theorem cut_pos (s:ByteArray):0<(cut s 47).length:=by
 have h:=cut_list s;have :(cut s 47).length=(cutL (by_ s)).length:=by rw [←h,List.length_map]
 rw [this];exact List.length_pos_iff.2 (yf0 _)
theorem zh3 {s:ByteArray} (h:s.size=0):za1 s=true∧names s=[]:=by
 have h1:names s=[]:=if_pos h;exact ⟨by simp [yd7,h1],h1⟩
theorem cut_length (s:ByteArray):(cut s 47).length≤s.size+1:=yj3 s 47 s.size 0 0
theorem cut_size {s:ByteArray} {k:Nat} {t:ByteArray} (h:(cut s 47)[k]? =some t):t.size≤s.size:=cutF_size s 47 _ _ _ t (List.mem_of_getElem? h)
theorem zg0 (s:ByteArray):(∀t∈zb s,ze t=true)∧(zb s).length≤6:=by
 cases h:za1 s
 ·rw [yd1 h];simp
 ·rw [zc1 h];exact zn9 h
theorem zz5 {L:List ByteArray} (h:∀t∈L,ze t=true) (h6:L.length≤20):(glue L).size≤1000000:=by
 have :=zy8 L (fun t ht=>(zr4 (h t ht)).2.2.2);omega
theorem zw2 {L:List ByteArray} (h:∀t∈L,ze t=true) (k:Nat):∀t∈L.take k,ze t=true:=fun t ht=>h t (List.mem_of_mem_take ht)
def zm7 (A B:List ByteArray):Bool:=(B.map by_).isPrefixOf (A.map by_)
theorem yk3 (p t:ByteArray):under p t=zm7 (names p) (names t):=rfl
theorem zn7 (A B:List ByteArray):zm7 A B=true↔∀ (j:Nat) t,B[j]? =some t→A[j]? =some t:=by
 unfold zm7;rw [List.isPrefixOf_iff_prefix]
 constructor
 ·rintro ⟨R,hR⟩ j t ht
  have h1:(A.map by_)[j]? =some (by_ t):=by
   rw [←hR,List.getElem?_append_left (by rw [List.length_map];exact (List.getElem?_eq_some_iff.1 ht).1),List.getElem?_map,ht];rfl
  rw [List.getElem?_map] at h1;cases hA:A[j]? with
  |none=>rw [hA] at h1;simp at h1
  |some a=>rw [hA] at h1;simp at h1;rw [zi3 h1]
 ·intro h
  have :B=A.take B.length:=by
   apply List.ext_getElem?
   intro j;by_cases hj:j<B.length
   ·rw [List.getElem?_take_of_lt hj,List.getElem?_eq_getElem hj,h j _ (List.getElem?_eq_getElem hj)]
   ·rw [List.getElem?_eq_none (by omega),List.getElem?_eq_none (by simp;omega)]
  rw [this,List.map_take];exact List.take_prefix _ _
theorem underR_short {A B:List ByteArray} (h:A.length<B.length):zm7 A B=false:=by
 rw [Bool.eq_false_iff];intro h1;have h2:=(zn7 A B).1 h1 A.length _ (List.getElem?_eq_getElem h);rw [List.getElem?_eq_none (Nat.le_refl _)] at h2;cases h2
theorem underR_not {A B:List ByteArray} {j:Nat} {a b:ByteArray} (ha:A[j]? =some a) (hb:B[j]? =some b) (h:a≠b):zm7 A B=false:=by
 rw [Bool.eq_false_iff];intro h1;have h2:=(zn7 A B).1 h1 j b hb;rw [ha] at h2;cases h2;exact h rfl
theorem zu0 {a b:ByteArray} (h:a=b):(a.toList==b.toList)=true:=by rw [h];exact beq_self_eq_true _
theorem zq1 {a b:ByteArray} (h:a≠b):(a.toList==b.toList)=false:=by
 rw [beq_eq_false_iff_ne,ByteArray.toList_eq,ByteArray.toList_eq];exact fun e=>h (zi3 e)
theorem zd2 {t:ByteArray}:t.toList.isEmpty=decide (by_ t=[]):=by
 rw [ByteArray.toList_eq];change (by_ t).isEmpty=_;cases by_ t <;> simp
end Pl
end
section
namespace Pl
def za9:List ByteArray→List ByteArray→Bool
 | [],[]=>false
 | [],_::_=>true
 |_::_,[]=>false
 |a::A,b::B=>if a=b then za9 A B else Op.bytesLess a.toList b.toList
theorem less_same {A B:List ByteArray} {k:Nat} {a b:ByteArray} (ha:A[k]? =some a) (hb:B[k]? =some b) (h:a=b):za9 (A.drop k) (B.drop k)=za9 (A.drop (k+1)) (B.drop (k+1)):=by
 have h1:=(List.getElem?_eq_some_iff.1 ha);have h2:=(List.getElem?_eq_some_iff.1 hb);rw [List.drop_eq_getElem_cons h1.1,List.drop_eq_getElem_cons h2.1,za9,if_pos (by rw [h1.2,h2.2];exact h)]
theorem yo0 {A B:List ByteArray} {k:Nat} {a b:ByteArray} (ha:A[k]? =some a) (hb:B[k]? =some b) (h:a≠b):za9 (A.drop k) (B.drop k)=Op.bytesLess a.toList b.toList:=by
 have h1:=(List.getElem?_eq_some_iff.1 ha);have h2:=(List.getElem?_eq_some_iff.1 hb);rw [List.drop_eq_getElem_cons h1.1,List.drop_eq_getElem_cons h2.1,za9,if_neg (by rw [h1.2,h2.2];exact h),h1.2,h2.2]
theorem less_end {A B:List ByteArray} {k:Nat} (h:k=A.length∧k≤B.length∨k=B.length∧k≤A.length):za9 (A.drop k) (B.drop k)=decide (A.length<B.length):=by
 rcases h with ⟨rfl,h⟩|⟨rfl,h⟩
 ·rw [List.drop_length];by_cases hl:A.length<B.length
  ·rw [List.drop_eq_getElem_cons hl];simp [za9,hl]
  ·rw [List.drop_of_length_le (by omega)];simp [za9,hl]
 ·rw [List.drop_length];have hn:¬A.length<B.length:=by omega
  by_cases hl:B.length<A.length
  ·rw [List.drop_eq_getElem_cons hl];simp [za9,hn]
  ·rw [List.drop_of_length_le (by omega)];simp [za9,hn]
end Pl
end
section
namespace Pl
theorem bytes_trans:∀a b c:List UInt8,Op.bytesLess a b=true→Op.bytesLess b c=true→Op.bytesLess a c=true:=by
 intro a
 induction a with
 |nil=>
  intro b c h1 h2;cases c with
  |nil=>cases b <;> simp [Op.bytesLess] at h2
  |cons z c=>rfl
 |cons x a ih=>
  intro b c h1 h2;cases b with
  |nil=>simp [Op.bytesLess] at h1
  |cons y b=>
   cases c with
   |nil=>simp [Op.bytesLess] at h2
   |cons z c=>
    simp only [Op.bytesLess,Bool.or_eq_true,decide_eq_true_eq,Bool.and_eq_true,beq_iff_eq] at h1 h2 ⊢
    rcases h1 with h1|⟨rfl,h1⟩
    ·rcases h2 with h2|⟨rfl,h2⟩
     ·left;rw [UInt8.lt_iff_toNat_lt] at h1 h2 ⊢;omega
     ·left;exact h1
    ·rcases h2 with h2|⟨rfl,h2⟩
     ·left;exact h2
     ·right;exact ⟨rfl,ih b c h1 h2⟩
theorem bytes_irr:∀a:List UInt8,Op.bytesLess a a=false:=by
 intro a
 induction a with
 |nil=>rfl
 |cons x a ih=>simp [Op.bytesLess,ih]
theorem zm3:∀A B C:List ByteArray,za9 A B=true→za9 B C=true→za9 A C=true:=by
 intro A
 induction A with
 |nil=>
  intro B C h1 h2;cases C with
  |nil=>cases B <;> simp [za9] at h2
  |cons c C=>rfl
 |cons a A ih=>
  intro B C h1 h2;cases B with
  |nil=>simp [za9] at h1
  |cons b B=>
   cases C with
   |nil=>simp [za9] at h2
   |cons c C=>
    rw [za9] at h1 h2 ⊢;by_cases hab:a=b
    ·subst hab;rw [if_pos rfl] at h1;by_cases hac:a=c
     ·subst hac;rw [if_pos rfl] at h2 ⊢;exact ih B C h1 h2
     ·rw [if_neg hac] at h2 ⊢;exact h2
    ·rw [if_neg hab] at h1;by_cases hbc:b=c
     ·subst hbc;rw [if_neg hab];exact h1
     ·rw [if_neg hbc] at h2;have h3:=bytes_trans _ _ _ h1 h2;by_cases hac:a=c
      ·subst hac;rw [bytes_irr] at h3;cases h3
      ·rw [if_neg hac];exact h3
theorem zj8:∀A:List ByteArray,za9 A A=false:=by
 intro A
 induction A with
 |nil=>rfl
 |cons a A ih=>rw [za9,if_pos rfl,ih]
theorem less_drop:∀A:List ByteArray,A≠[]→za9 A.dropLast A=true:=by
 intro A h;have h1:A.dropLast++[A.getLast h]=A:=List.dropLast_concat_getLast h
 have h2:∀ (B:List ByteArray) (x:ByteArray),za9 B (B++[x])=true:=by
  intro B x
  induction B with
  |nil=>rfl
  |cons b B ih=>rw [List.cons_append,za9,if_pos rfl];exact ih
 have h3:=h2 A.dropLast (A.getLast h);rw [h1] at h3;exact h3
def ltP (a b:ByteArray):Bool:=za1 a&&za1 b&&za9 (zb a) (zb b)
def zb4 (p:ByteArray):ByteArray:=glue (zb p).dropLast
def parI (C:List Nd) (p:ByteArray):Bool:=decide ((zb4 p).size=0)||C.any (fun m=>decide (m.path=zb4 p)&&decide (m.kind=1))
def goI (C:List Nd) (last:ByteArray):List Nd→Bool
 | []=>true
 |n::r=>za7 n&&ltP last n.path&&parI C n.path&&goI (C++[n]) n.path r
def za5 (L:List Nd):Bool:=decide (L.length≤40)&&goI [] ⟨#[]⟩ L
def dirS (L:List Nd) (p:ByteArray):Bool:=decide (p.size=0)||(match L.find? (fun m=>decide (m.path=p)) with |some m=>decide (m.kind=1)|none=>false)
def prevB (prev:Option ByteArray) (p:ByteArray):Bool:=match prev with |none=>true|some q=>za9 (names q) (names p)
def goS (L:List Nd) (prev:Option ByteArray):List Nd→Bool
 | []=>true
 |n::r=>za7 n&&prevB prev n.path&&dirS L (parent n.path)&&goS L (some n.path) r
theorem zb1 {n:Nd} (h:za7 n=true):za1 n.path=true∧n.path.size≠0:=by
 unfold za7 at h;simp only [Bool.and_eq_true,decide_eq_true_eq] at h;exact ⟨h.1.1.1.1.2,h.1.1.1.1.1⟩
theorem zd8 {n:Nd} (h:za7 n=true):n.data.size≤60∧(0≤n.time∧n.time≤1000000)∧(0≤n.mark∧n.mark≤8)∧zj9 n=true:=by
 unfold za7 at h;simp only [Bool.and_eq_true,decide_eq_true_eq] at h;exact ⟨h.1.1.1.2,h.1.1.2,h.1.2,h.2⟩
theorem zd1 {p:ByteArray} (h:za1 p=true):p.size≤200:=by
 unfold za1 at h;simp only [Bool.and_eq_true,decide_eq_true_eq] at h;exact h.1.1
theorem zw7 {p:ByteArray} (h:p.size≠0):names p≠[]:=by
 intro e;have :=zl0 p;rw [e] at this;simp only [List.map_nil,zo5] at this
 split at this
 ·next h1=>rw [zh2] at h1;exact h h1
 ·exact yf0 _ this.symm
theorem zr3 {p:ByteArray} (h:za1 p=true):parent p=zb4 p:=by rw [zq5,zb4,zc1 h]
theorem yh3 {p:ByteArray} (h:za1 p=true):names (zb4 p)=(names p).dropLast:=by
 rw [zb4,zc1 h];exact zo0 (fun t ht=>(zn9 h).1 t (List.dropLast_subset _ ht))
theorem zd4 {a b:ByteArray} (ha:za1 a=true) (hb:za1 b=true):ltP a b=za9 (names a) (names b):=by rw [ltP,ha,hb,zc1 ha,zc1 hb];rfl
theorem path_eq {a b:ByteArray} (h:names a=names b):a=b:=by rw [←zo2 a,←zo2 b,h]
theorem rise (L:List Nd):∀ (r:List Nd) (q:ByteArray),goS L (some q) r=true→∀m∈r,za9 (names q) (names m.path)=true:=by
 intro r
 induction r with
 |nil=>intro q _ m hm;cases hm
 |cons n r ih=>
  intro q h m hm;simp only [goS,Bool.and_eq_true] at h
  rcases List.mem_cons.1 hm with rfl |hm
  ·exact h.1.1.2
  ·exact zm3 _ _ _ h.1.1.2 (ih n.path h.2 m hm)
theorem find_app {α:Type} {f:α→Bool} (A B:List α):(A++B).find? f=match A.find? f with |some x=>some x|none=>B.find? f:=by
 rw [List.find?_append];cases A.find? f <;> rfl
theorem one_path {C:List Nd} (h:C.Pairwise (fun a b=>za9 (names a.path) (names b.path)=true)) {a b:Nd} (ha:a∈C) (hb:b∈C) (e:a.path=b.path):a=b:=by
 induction h with
 |nil=>cases ha
 |cons hx _ ih=>
  rcases List.mem_cons.1 ha with e1|h1
  ·rcases List.mem_cons.1 hb with e2|h2
   ·rw [e1,e2]
   ·have h3:=hx _ h2;rw [←e1,e,zj8] at h3;cases h3
  ·rcases List.mem_cons.1 hb with e2|h2
   ·have h3:=hx _ h1;rw [←e2,e,zj8] at h3;cases h3
   ·exact ih h1 h2
theorem go_same (L:List Nd):∀ (r C:List Nd) (prev:Option ByteArray) (last:ByteArray),L=C++r→(prev=none∧C=[]∧last=⟨#[]⟩∨prev=some last∧za1 last=true)→
  C.Pairwise (fun a b=>za9 (names a.path) (names b.path)=true)→(∀a∈C,a.path=last∨za9 (names a.path) (names last)=true)→goS L prev r=goI C last r:=by
 intro r
 induction r with
 |nil=>intros;rfl
 |cons n r ih=>
  intro C prev last hL hprev hC hlast;simp only [goS,goI];cases hn:za7 n
  ·simp
  obtain ⟨hr,h0⟩:=zb1 hn
  have hlt:prevB prev n.path=ltP last n.path:=by
   rcases hprev with ⟨rfl,rfl,rfl⟩|⟨rfl,hl⟩
   ·have e1:za1 (⟨#[]⟩:ByteArray)=true:=(zh3 rfl).1;have e2:names (⟨#[]⟩:ByteArray)=[]:=(zh3 rfl).2;rw [zd4 e1 hr,e2];cases hx:names n.path with
    |nil=>exact absurd hx (zw7 h0)
    |cons a l=>rfl
   ·rw [zd4 hl hr];rfl
  rw [hlt];cases hlt2:ltP last n.path
  ·simp
  simp only [Bool.true_and,zr3 hr]
  have hall:∀a∈C,za9 (names a.path) (names n.path)=true:=by
   intro a ha
   rcases hprev with ⟨_,rfl,_⟩|⟨_,hl⟩
   ·cases ha
   ·rw [zd4 hl hr] at hlt2
    rcases hlast a ha with e|e
    ·rw [e];exact hlt2
    ·exact zm3 _ _ _ e hlt2
  have hC2:(C++[n]).Pairwise (fun a b=>za9 (names a.path) (names b.path)=true):=by
   rw [List.pairwise_append];exact ⟨hC,List.pairwise_singleton _ _,fun a ha b hb=>by simp at hb;subst hb;exact hall a ha⟩
  have hrest:goS L (some n.path) r=goI (C++[n]) n.path r:=by
   refine ih (C++[n]) (some n.path) n.path (by rw [hL];simp) (.inr ⟨rfl,hr⟩) hC2 ?_;intro a ha
   rcases List.mem_append.1 ha with ha|ha
   ·exact .inr (hall a ha)
   ·simp at ha;subst ha;exact .inl rfl
  by_cases hp:(zb4 n.path).size=0
  ·have e1:dirS L (zb4 n.path)=true:=by simp [dirS,hp]
   have e2:parI C n.path=true:=by simp [parI,hp]
   rw [e1,e2,hrest]
  cases hpar:parI C n.path
  ·have e1:(dirS L (zb4 n.path)&&goS L (some n.path) r)=false:=by
    rw [Bool.eq_false_iff];intro h;simp only [Bool.and_eq_true] at h;have hd:=h.1;simp only [dirS,hp,decide_false,Bool.false_or] at hd;rw [hL,find_app] at hd
    have hCn:C.find? (fun m=>decide (m.path=zb4 n.path))=none∨∃m,C.find? (fun m=>decide (m.path=zb4 n.path))=some m:=by
     cases C.find? (fun m=>decide (m.path=zb4 n.path)) with
     |none=>exact .inl rfl
     |some m=>exact .inr ⟨m,rfl⟩
    rcases hCn with hCn|⟨m,hm⟩
    ·rw [hCn] at hd;cases hf:(n::r).find? (fun m=>decide (m.path=zb4 n.path)) with
     |none=>rw [hf] at hd;simp at hd
     |some m=>
      have hm1:=List.mem_of_find?_eq_some hf;have hm2:m.path=zb4 n.path:=by simpa using List.find?_some hf
      have hless:za9 (names m.path) (names n.path)=true:=by
       rw [hm2,yh3 hr];exact less_drop _ (zw7 h0)
      rcases List.mem_cons.1 hm1 with rfl |hm1
      ·rw [zj8] at hless;cases hless
      ·have h3:=rise L r n.path h.2 m hm1;have h4:=zm3 _ _ _ hless h3;rw [zj8] at h4;cases h4
    ·rw [hm] at hd;have hm1:=List.mem_of_find?_eq_some hm;have hm2:m.path=zb4 n.path:=by simpa using List.find?_some hm
     have :parI C n.path=true:=by
      simp only [parI,Bool.or_eq_true,List.any_eq_true];exact .inr ⟨m,hm1,by simpa [hm2] using hd⟩
     rw [hpar] at this;cases this
   rw [e1];simp
  ·have e1:dirS L (zb4 n.path)=true:=by
    simp only [parI,hp,decide_false,Bool.false_or,List.any_eq_true,Bool.and_eq_true,decide_eq_true_eq] at hpar;obtain ⟨m,hm,hm2,hm3⟩:=hpar
    have hfind:C.find? (fun m=>decide (m.path=zb4 n.path))=some m:=by
     cases hf:C.find? (fun m=>decide (m.path=zb4 n.path)) with
     |none=>
      have :=List.find?_eq_none.1 hf m hm;simp [hm2] at this
     |some x=>
      have hx1:=List.mem_of_find?_eq_some hf;have hx2:x.path=zb4 n.path:=by simpa using List.find?_some hf
      rw [one_path hC hx1 hm (hx2.trans hm2.symm)]
    simp only [dirS,hp,decide_false,Bool.false_or];rw [hL,find_app,hfind]
    simpa using hm3
   rw [e1,hrest]
theorem tree_same (L:List Nd):goS L none L=goI [] ⟨#[]⟩ L:=
 go_same L L [] none ⟨#[]⟩ rfl (.inl ⟨rfl,rfl,rfl⟩) List.Pairwise.nil (fun a ha=>by cases ha)
theorem zt:∀ (r C:List Nd) (last:ByteArray),goI C last r=true→∀n∈r,za7 n=true:=by
 intro r
 induction r with
 |nil=>intro C last _ n hn;cases hn
 |cons m r ih=>
  intro C last h n hn;simp only [goI,Bool.and_eq_true] at h
  rcases List.mem_cons.1 hn with rfl |hn
  ·exact h.1.1.1
  ·exact ih _ _ h.2 n hn
theorem yf4:∀ (r C:List Nd) (last:ByteArray),goI C last r=true→za1 last=true→r.Pairwise (fun a b=>za9 (names a.path) (names b.path)=true)∧∀n∈r,za9 (names last) (names n.path)=true:=by
 intro r
 induction r with
 |nil=>intro C last _ _;exact ⟨List.Pairwise.nil,fun n hn=>by cases hn⟩
 |cons m r ih=>
  intro C last h hl;simp only [goI,Bool.and_eq_true] at h;obtain ⟨hr,h0⟩:=zb1 h.1.1.1;obtain ⟨i1,i2⟩:=ih _ _ h.2 hr;have h1:=h.1.1.2;rw [zd4 hl hr] at h1;refine ⟨List.Pairwise.cons (fun n hn=>i2 n hn) i1,fun n hn=>?_⟩
  rcases List.mem_cons.1 hn with rfl |hn
  ·exact h1
  ·exact zm3 _ _ _ h1 (i2 n hn)
end Pl
end
section
open Go.RowKit
theorem hide {p:Prop} (h:p):Hid p:=h
theorem za {p:Prop} (h:Hid p):p:=h
theorem za3 {a b:Bool} (h:a=b):Ending.returned (.bool a)= .returned (.bool b):=by rw [h]
theorem zz4 {a b:ByteArray} (h:a=b):Ending.returned (.string a)= .returned (.string b):=by rw [h]
theorem yh2 {x:Int} (h:(Lit.int .i64 x).wf=true): -9223372036854775808≤x∧x≤9223372036854775807:=by
 simp [Lit.wf,IntKind.min,IntKind.max,IntKind.signed,IntKind.bits] at h
 omega
/- Short names for what the walks' simp calls name over and over. -/
theorem kA0 {α : Type _} {xs : List α} {i : Nat} : xs.toArray[i]? = xs[i]? := List.getElem?_toArray
theorem kA1 {α : Type _} {a : α} {l : List α} : (a :: l)[0]? = some a := List.getElem?_cons_zero
theorem kA2 {α : Type _} {a : α} {l : List α} {i : Nat} : (a :: l)[i + 1]? = l[i]? := List.getElem?_cons_succ
theorem kB0 {α : Type _} {xs : List α} {i : Nat} (h : i < xs.toArray.size) : xs.toArray[i] = xs[i]'(by simpa using h) := List.getElem_toArray h
theorem kB1 {α : Type _} {a : α} {as' : List α} (h : 0 < (a :: as').length) : (a :: as')[0] = a := List.getElem_cons_zero a as' h
theorem kB2 {α : Type _} {a : α} {as' : List α} {i : Nat} (h : i + 1 < (a :: as').length) : (a :: as')[i + 1] = as'[i]'(by simpa using h) := List.getElem_cons_succ a as' i h
theorem kB3 {α : Type _} (l : List α) (i : Nat) (a : α) : l.toArray.setIfInBounds i a = (l.set i a).toArray := List.setIfInBounds_toArray l i a
theorem kB4 {α : Type _} {x : α} {xs : List α} {a : α} : (x :: xs).set 0 a = a :: xs := List.set_cons_zero
theorem kB5 {α : Type _} {x : α} {xs : List α} {n : Nat} {a : α} : (x :: xs).set (n + 1) a = x :: xs.set n a := List.set_cons_succ
end
section
namespace Pl
theorem zw9:∀a b:List UInt8,a≠b→Op.bytesLess a b= !Op.bytesLess b a:=by
 intro a
 induction a with
 |nil=>intro b h;cases b with
  |nil=>exact absurd rfl h
  |cons c b=>rfl
 |cons x a ih=>
  intro b h;cases b with
  |nil=>rfl
  |cons y b=>
   simp only [Op.bytesLess];by_cases hxy:x=y
   ·subst hxy;have hab:a≠b:=fun e=>h (by rw [e]);rw [ih b hab];simp
   ·have h1:(x==y)=false:=by simpa using hxy
    have h2:(y==x)=false:=by simpa using fun e:y=x=>hxy e.symm
    rw [h1,h2];simp only [Bool.false_and,Bool.or_false];by_cases hlt:x<y
    ·have :¬y<x:=by rw [UInt8.lt_iff_toNat_lt] at hlt ⊢;omega
     simp [hlt,this]
    ·have :y<x:=by
      rw [UInt8.lt_iff_toNat_lt] at hlt ⊢;have :x.toNat≠y.toNat:=fun e=>hxy (UInt8.toNat_inj.1 e);omega
     simp [hlt,this]
theorem less_anti:∀A B:List ByteArray,A≠B→za9 A B= !za9 B A:=by
 intro A
 induction A with
 |nil=>intro B h;cases B with
  |nil=>exact absurd rfl h
  |cons b B=>rfl
 |cons a A ih=>
  intro B h;cases B with
  |nil=>rfl
  |cons b B=>
   rw [za9,za9];by_cases hab:a=b
   ·subst hab;rw [if_pos rfl,if_pos rfl];exact ih B (fun e=>h (by rw [e]))
   ·rw [if_neg hab,if_neg (fun e=>hab e.symm)];refine zw9 _ _ ?_;rw [ByteArray.toList_eq,ByteArray.toList_eq];exact fun e=>hab (zi3 e)
theorem less_under:∀A B:List ByteArray,(∀ (j:Nat) t,B[j]? =some t→A[j]? =some t)→za9 A B=false:=by
 intro A
 induction A with
 |nil=>intro B h;cases B with
  |nil=>rfl
  |cons b B=>have :=h 0 b rfl;cases this
 |cons a A ih=>
  intro B h;cases B with
  |nil=>rfl
  |cons b B=>
   have h0:=h 0 b rfl;simp at h0
   subst h0;rw [za9,if_pos rfl];exact ih B (fun j t ht=>by have :=h (j+1) t (by simpa using ht);simpa using this)
theorem yk8 {p:ByteArray} (h:za1 p=true):glue (zb p)=p:=by rw [zc1 h,zo2]
theorem glue_one (n:ByteArray):glue [n]=n:=by apply zi3;rw [zs2];rfl
theorem path_inj {a b:ByteArray} (ha:za1 a=true) (hb:za1 b=true) (h:zb a=zb b):a=b:=by
 rw [←yk8 ha,←yk8 hb,h]
theorem two_less {a b:ByteArray} (ha:za1 a=true) (hb:za1 b=true) (h:a≠b):(za1 a&&za1 b&&za9 (zb a) (zb b))= !(za1 b&&za1 a&&za9 (zb b) (zb a)):=by
 rw [ha,hb,Bool.true_and,Bool.true_and,Bool.true_and];exact less_anti _ _ (fun e=>h (path_inj ha hb e))
end Pl
end
section
open Go.RowKit
namespace Pl
structure Sg where
 told:Bool
 node:Nd
 have':List Bool
def Sg.cs (s:Sg):List Value:=[.bool s.told, .string s.node.path, .int .i64 s.node.kind, .string s.node.data, .int .i64 s.node.time, .int .i64 s.node.mark]++s.have'.map .bool
def za6:Nd:=⟨⟨#[]⟩,0,⟨#[]⟩,0,0⟩
def Sg.zero:Sg:=⟨false,za6,[false,false,false,false]⟩
def zm (n:Nd) (m:Int):Nd:=⟨n.path,n.kind,n.data,n.time,max n.mark m⟩
def zh1 (s:Sg) (k:Nat) (n:Nd):Sg:=⟨true,zm (if s.told then s.node else n) n.mark,s.have'.set k (decide (n.kind=1))⟩
def zj5 (n:Nd):Bool:= !decide (n.kind=1)||decide (0<n.mark)
def upS (s:Sg):Sg:=
 if s.node.kind=0∧max (s.node.mark - 1) 0=0 then Sg.zero else ⟨s.told,⟨s.node.path,s.node.kind,s.node.data,s.node.time,max (s.node.mark - 1) 0⟩,s.have'⟩
def goD:Nat→Sg→List (Option Nd)→Sg
 |_,s,[]=>s
 |k,s,none::r=>goD (k+1) s r
 |k,s,some n::r=>if zj5 n then zh1 s k n else goD (k+1) (zh1 s k n) r
def decS (ns:List (Option Nd)):Sg:=upS (goD 0 Sg.zero ns)
def lk (L:List Nd) (p:ByteArray):Option Nd:=L.find? (fun m=>decide (m.path=p))
def nsOf:List Bool→List (List Nd)→ByteArray→List (Option Nd)
 |a::ab,L::Ls,p=>(if a then lk L p else none)::nsOf ab Ls p
 |_,_,_=>[]
theorem ns_get (p:ByteArray):∀ (ab:List Bool) (Ls:List (List Nd)) (k:Nat) (a:Bool) (L:List Nd),ab[k]? =some a→Ls[k]? =some L→(nsOf ab Ls p)[k]? =some (if a then lk L p else none):=by
 intro ab
 induction ab with
 |nil=>intro Ls k a L h;simp at h
 |cons x ab ih=>
  intro Ls k a L h1 h2;cases Ls with
  |nil=>simp at h2
  |cons M Ls=>
   cases k with
   |zero=>simp at h1 h2;subst h1 h2;rfl
   |succ k=>simp at h1 h2;simpa [nsOf] using ih Ls k a L h1 h2
theorem ns_len (p:ByteArray):∀ (ab:List Bool) (Ls:List (List Nd)),Ls.length≤ab.length→(nsOf ab Ls p).length=Ls.length:=by
 intro ab
 induction ab with
 |nil=>intro Ls h;cases Ls with |nil=>rfl |cons=>simp at h
 |cons x ab ih=>
  intro Ls h;cases Ls with
  |nil=>rfl
  |cons M Ls=>simp [nsOf];exact ih Ls (by simpa using h)
theorem go_step {ns:List (Option Nd)} {k:Nat} {x:Option Nd} (h:ns[k]? =some x) (j:Nat) (s:Sg):goD j s (ns.drop k)=match x with |none=>goD (j+1) s (ns.drop (k+1))|some n=>if zj5 n then zh1 s j n else goD (j+1) (zh1 s j n) (ns.drop (k+1)):=by
 have h1:=List.getElem?_eq_some_iff.1 h;rw [List.drop_eq_getElem_cons h1.1,h1.2];cases x <;> rfl
theorem go_end {ns:List (Option Nd)} {k:Nat} (h:ns.length≤k) (j:Nat) (s:Sg):goD j s (ns.drop k)=s:=by
 rw [List.drop_eq_nil_of_le h];rfl
theorem take_len (s:Sg) (k:Nat) (n:Nd):(zh1 s k n).have'.length=s.have'.length:=by simp [zh1]
theorem take_mark {s:Sg} {k:Nat} {n:Nd} (h:0≤s.node.mark∧s.node.mark≤8) (hn:0≤n.mark∧n.mark≤8):0≤(zh1 s k n).node.mark∧(zh1 s k n).node.mark≤8:=by
 unfold zh1 zm;cases s.told <;> simp <;> omega
theorem up_len {s:Sg} (h:s.have'.length=4):(upS s).have'.length=4:=by
 unfold upS
 split
 ·rfl
 ·exact h
end Pl
end
section
open Go.RowKit
namespace Pl
structure Ot where
 ok:Bool
 node:Nd
 parts:List Nat
def finO (o:Ot) (mark:Int):Ot:=⟨o.ok,⟨o.node.path,o.node.kind,o.node.data,o.node.time,max 0 (mark - 1)⟩,o.parts⟩
def zf9 (p:ByteArray) (o:Ot) (mark:Int):List (Nat × Option Nd)→Ot
 | []=>finO o mark
 |(_,none)::r=>zf9 p o mark r
 |(k,some n)::r=>
  if o.parts=[] then
   if n.kind=1 then (if 0<n.mark then finO ⟨true,⟨p,1,⟨#[]⟩,n.time,0⟩,[k]⟩ (max mark n.mark) else zf9 p ⟨true,⟨p,1,⟨#[]⟩,n.time,0⟩,[k]⟩ (max mark n.mark) r)
   else if n.kind=0 then ⟨decide (1<n.mark),⟨p,0,⟨#[]⟩,0,n.mark - 1⟩,[]⟩ else ⟨true,n,[]⟩
  else if n.kind=1 then (if 0<n.mark then finO ⟨o.ok,o.node,o.parts++[k]⟩ (max mark n.mark) else zf9 p ⟨o.ok,o.node,o.parts++[k]⟩ (max mark n.mark) r) else finO o (max mark n.mark)
def numb:Nat→List (Option Nd)→List (Nat × Option Nd)
 |_,[]=>[]
 |k,x::r=>(k,x)::numb (k+1) r
def zc0 (ks:List Nat):List Bool:=(List.range 4).map (fun j=>decide (j∈ks))
theorem parts_in {ks:List Nat} {k:Nat} (h:k<4):(zc0 ks).set k true=zc0 (ks++[k]):=by
 obtain rfl |rfl |rfl |rfl:k=0∨k=1∨k=2∨k=3:=by omega
 all_goals simp [zc0,List.range_succ]
theorem parts_out {ks:List Nat} {k:Nat} (h:k<4) (hk:k∉ks):(zc0 ks).set k false=zc0 ks:=by
 obtain rfl |rfl |rfl |rfl:k=0∨k=1∨k=2∨k=3:=by omega
 all_goals simp [zc0,List.range_succ,hk]
structure SameO (o:Ot) (s:Sg):Prop where
 told:o.ok=s.told
 node:o.ok=true→o.node=s.node
 parts:s.have'=zc0 o.parts
 dir:o.parts≠[]→o.ok=true∧o.node.kind=1
 no:o.parts=[]→o.ok=true→o.node.kind≠1
theorem yn0 {d:ByteArray} (h:d.size=0):d=⟨#[]⟩:=by
 cases d with
 |mk a=>have :a=#[]:=Array.size_eq_zero_iff.1 h;rw [this]
def ya6 (p:ByteArray) (ns:List (Option Nd)):Prop:=∀n,some n∈ns→za7 n=true∧n.path=p
theorem yg3 {p:ByteArray} {t mark:Int} {ks:List Nat} (hks:ks≠[]):SameO (finO ⟨true,⟨p,1,⟨#[]⟩,t,0⟩,ks⟩ mark) (upS ⟨true,⟨p,1,⟨#[]⟩,t,mark⟩,zc0 ks⟩):=by
 have hu:upS ⟨true,⟨p,1,⟨#[]⟩,t,mark⟩,zc0 ks⟩=⟨true,⟨p,1,⟨#[]⟩,t,max (mark - 1) 0⟩,zc0 ks⟩:=by
  unfold upS;rw [if_neg (by simp)]
 rw [hu];refine ⟨rfl,fun _=>?_,rfl,fun _=>⟨rfl,rfl⟩,fun h=>absurd h hks⟩;simp only [finO];rw [Int.max_comm]
theorem pick_dirs (p:ByteArray):∀ (ns:List (Option Nd)) (k:Nat) (t mark:Int) (ks:List Nat),ya6 p ns→k+ns.length≤4→ks≠[]→(∀j∈ks,j<k)→0≤mark→
  SameO (zf9 p ⟨true,⟨p,1,⟨#[]⟩,t,0⟩,ks⟩ mark (numb k ns)) (upS (goD k ⟨true,⟨p,1,⟨#[]⟩,t,mark⟩,zc0 ks⟩ ns)):=by
 intro ns
 induction ns with
 |nil=>intro k t mark ks _ _ hks _ hm;exact yg3 hks
 |cons x ns ih=>
  intro k t mark ks hr hl hks hlt hm;have hr':ya6 p ns:=fun n hn=>hr n (List.mem_cons_of_mem _ hn);simp only [List.length_cons] at hl;cases x with
  |none=>exact ih (k+1) t mark ks hr' (by omega) hks (fun j hj=>Nat.lt_succ_of_lt (hlt j hj)) hm
  |some n=>
   have hnk:k∉ks:=fun h=>absurd (hlt k h) (Nat.lt_irrefl _);have hm2:0≤max mark n.mark:=by omega
   simp only [numb,zf9,goD];rw [if_neg hks];by_cases hk:n.kind=1
   ·have htk:zh1 ⟨true,⟨p,1,⟨#[]⟩,t,mark⟩,zc0 ks⟩ k n=⟨true,⟨p,1,⟨#[]⟩,t,max mark n.mark⟩,zc0 (ks++[k])⟩:=by
     simp only [zh1,zm,if_true,hk,decide_true];rw [parts_in (by omega)]
    rw [htk,if_pos hk];by_cases hmk:0<n.mark
    ·have hst:zj5 n=true:=by simp [zj5,hmk]
     rw [if_pos hmk,hst,if_pos rfl];exact yg3 (by simp)
    ·have hst:zj5 n=false:=by simp [zj5,hmk,hk]
     rw [if_neg hmk,hst,if_neg (by decide)]
     exact ih (k+1) t _ (ks++[k]) hr' (by omega) (by simp) (fun j hj=>by
      rcases List.mem_append.1 hj with h|h
      ·exact Nat.lt_succ_of_lt (hlt j h)
      ·simp at h;omega) hm2
   ·have htk:zh1 ⟨true,⟨p,1,⟨#[]⟩,t,mark⟩,zc0 ks⟩ k n=⟨true,⟨p,1,⟨#[]⟩,t,max mark n.mark⟩,zc0 ks⟩:=by
     simp only [zh1,zm,if_true,hk,decide_false];rw [parts_out (by omega) hnk]
    have hst:zj5 n=true:=by simp [zj5,hk]
    rw [htk,if_neg hk,hst,if_pos rfl];exact yg3 hks
theorem pick_same (p:ByteArray):∀ (ns:List (Option Nd)) (k:Nat),ya6 p ns→k+ns.length≤4→SameO (zf9 p ⟨false,za6,[]⟩ 0 (numb k ns)) (upS (goD k ⟨false,za6,zc0 []⟩ ns)):=by
 intro ns
 induction ns with
 |nil=>
  intro k _ _
  have hu:upS (goD k ⟨false,za6,zc0 []⟩ [])=Sg.zero:=by
   show upS ⟨false,za6,zc0 []⟩=Sg.zero;unfold upS;rw [if_pos ⟨rfl,by show max ((0:Int) - 1) 0=0;decide⟩]
  rw [hu];exact ⟨rfl,fun h=>(by cases h),rfl,fun h=>absurd rfl h,fun _ h=>(by cases h)⟩
 |cons x ns ih=>
  intro k hr hl;have hr':ya6 p ns:=fun n hn=>hr n (List.mem_cons_of_mem _ hn);simp only [List.length_cons] at hl;cases x with
  |none=>exact ih (k+1) hr' (by omega)
  |some n=>
   obtain ⟨hb,hp⟩:=hr n List.mem_cons_self;obtain ⟨-, -,hmk8,hkd⟩:=zd8 hb;obtain ⟨np,nk,nd,nt,nm⟩:=n;simp only at hp hmk8;subst hp;have hnm:max nm nm=nm:=by omega
   have hnk:k∉([]:List Nat):=by simp
   simp only [numb,zf9,goD,if_true];by_cases hk:nk=1
   ·subst hk
    have hd:nd=⟨#[]⟩:=by
     simp [zj9] at hkd
     first |exact hkd|exact yn0 hkd
    subst hd
    have htk:zh1 ⟨false,za6,zc0 []⟩ k ⟨np,1,⟨#[]⟩,nt,nm⟩=⟨true,⟨np,1,⟨#[]⟩,nt,nm⟩,zc0 ([]++[k])⟩:=by
     simp only [zh1,zm,Bool.false_eq_true,if_false,decide_true,hnm];rw [parts_in (by omega)]
    have hm0:max 0 nm=nm:=by omega
    rw [htk,hm0,List.nil_append,if_pos (rfl:(1:Int)=1)];by_cases hmk:0<nm
    ·have hst:zj5 ⟨np,1,⟨#[]⟩,nt,nm⟩=true:=by simp [zj5,hmk]
     rw [if_pos hmk,hst,if_pos rfl];exact yg3 (by simp)
    ·have hst:zj5 ⟨np,1,⟨#[]⟩,nt,nm⟩=false:=by simp [zj5,hmk]
     rw [if_neg hmk,hst,if_neg (by decide)];exact pick_dirs np ns (k+1) nt nm [k] hr' (by omega) (by simp) (fun j hj=>by simp at hj;omega) hmk8.1
   ·have htk:zh1 ⟨false,za6,zc0 []⟩ k ⟨np,nk,nd,nt,nm⟩=⟨true,⟨np,nk,nd,nt,nm⟩,zc0 []⟩:=by
     simp only [zh1,zm,Bool.false_eq_true,if_false,hk,decide_false,hnm];rw [parts_out (by omega) hnk]
    have hst:zj5 ⟨np,nk,nd,nt,nm⟩=true:=by simp [zj5,hk]
    rw [htk,if_neg hk,hst,if_pos rfl];by_cases hz:nk=0
    ·subst hz;simp [zj9] at hkd
     obtain ⟨⟨hd,ht⟩,hm⟩:=hkd;have hd2:nd=⟨#[]⟩:=by first |exact hd|exact yn0 hd
     subst hd2 ht;rw [if_pos rfl];by_cases h1:nm=1
     ·subst h1
      have hu:upS ⟨true,⟨np,0,⟨#[]⟩,0,1⟩,zc0 []⟩=Sg.zero:=by
       unfold upS;rw [if_pos ⟨rfl,by show max ((1:Int) - 1) 0=0;decide⟩]
      rw [hu];exact ⟨rfl,fun h=>(by cases h),rfl,fun h=>absurd rfl h,fun _ h=>(by cases h)⟩
     ·have hu:upS ⟨true,⟨np,0,⟨#[]⟩,0,nm⟩,zc0 []⟩=⟨true,⟨np,0,⟨#[]⟩,0,nm - 1⟩,zc0 []⟩:=by
       unfold upS;rw [if_neg (by simp only;omega),show max (nm - 1) 0=nm - 1 by omega]
      rw [hu];exact ⟨by simp;omega,fun _=>rfl,rfl,fun h=>absurd rfl h,fun _ _=>(by show (0:Int)≠1;decide)⟩
    ·have h2:nm=0:=by
      simp [zj9,hz,hk] at hkd
      exact hkd.2
     subst h2
     have hu:upS ⟨true,⟨np,nk,nd,nt,0⟩,zc0 []⟩=⟨true,⟨np,nk,nd,nt,0⟩,zc0 []⟩:=by
      unfold upS;rw [if_neg (fun h=>hz h.1)];rfl
     rw [hu,if_neg hz];exact ⟨rfl,fun _=>rfl,rfl,fun h=>absurd rfl h,fun _ _=>hk⟩
theorem pick_dec {p:ByteArray} {ns:List (Option Nd)} (hr:ya6 p ns) (hl:ns.length≤4):SameO (zf9 p ⟨false,za6,[]⟩ 0 (numb 0 ns)) (decS ns):=pick_same p ns 0 hr (by omega)
end Pl
end
section
open Go.RowKit
namespace Pl
theorem go_len:∀ (ns:List (Option Nd)) (k:Nat) (s:Sg),s.have'.length=4→(goD k s ns).have'.length=4:=by
 intro ns
 induction ns with
 |nil=>intro k s h;exact h
 |cons x ns ih=>
  intro k s h;cases x with
  |none=>exact ih _ _ h
  |some n=>
   rw [goD]
   split
   ·rw [take_len];exact h
   ·exact ih _ _ (by rw [take_len];exact h)
theorem dec_len (ns:List (Option Nd)):(decS ns).have'.length=4:=up_len (go_len ns 0 Sg.zero rfl)
theorem pick_skip (p:ByteArray):∀ (l:List (Nat × Option Nd)) (o:Ot) (m:Int),zf9 p o m l=zf9 p o m (l.filter (fun x=>x.2.isSome)):=by
 intro l
 induction l with
 |nil=>intro o m;rfl
 |cons x l ih=>
  intro o m;obtain ⟨k,y⟩:=x;cases y with
  |none=>simp only [zf9,List.filter];exact ih o m
  |some n=>
   simp only [List.filter,Option.isSome,zf9];rw [ih,ih];rfl
theorem sub_filter {l m:List Nat} (h:l.Sublist m):m.Nodup→m.filter (fun k=>decide (k∈l))=l:=by
 induction h with
 |slnil=>intro _;rfl
 | @cons l m a h ih=>
  intro hn;have hn':=List.nodup_cons.1 hn;have ha:a∉l:=fun h2=>hn'.1 (h.subset h2);rw [List.filter_cons_of_neg (by simpa using ha)];exact ih hn'.2
 | @cons_cons l m a h ih=>
  intro hn;have hn':=List.nodup_cons.1 hn;rw [List.filter_cons_of_pos (by simp)]
  congr 1
  rw [←ih hn'.2]
  apply List.filter_congr
  intro k hk;have :k≠a:=fun e=>hn'.1 (e ▸ hk);rw [ih hn'.2];simp [this]
theorem numb_map:∀ (ns:List (Option Nd)) (j:Nat),numb j ns=(List.range ns.length).map (fun i=>(j+i,ns.getD i none)):=by
 intro ns
 induction ns with
 |nil=>intro j;rfl
 |cons x ns ih=>
  intro j;rw [numb,ih,List.length_cons,List.range_succ_eq_map,List.map_cons,List.map_map]
  congr 1
  apply List.map_congr_left
  intro i _;simp
  omega
theorem filter_ask (ks:List Nat) (R:List Nat) (f:Nat→Option Nd):(R.map (fun i=>(i,if decide (i∈ks) then f i else none))).filter (fun x=>x.2.isSome)=((R.filter (fun k=>decide (k∈ks))).map (fun i=>(i,f i))).filter (fun x=>x.2.isSome):=by
 induction R with
 |nil=>rfl
 |cons a R ih=>
  by_cases h:a∈ks
  ·simp only [List.map_cons,List.filter_cons,h,decide_true,if_true]
   split <;> rw [ih]
  ·simp only [List.map_cons,List.filter_cons,h,decide_false,Bool.false_eq_true,if_false,Option.isSome];exact ih
theorem pick_sub (p:ByteArray):∀ (l:List (Nat × Option Nd)) (o:Ot) (m:Int),∃ks,ks.Sublist (l.map Prod.fst)∧((zf9 p o m l).parts=o.parts++ks∨(zf9 p o m l).parts=[]):=by
 intro l
 induction l with
 |nil=>intro o m;exact ⟨[],List.nil_sublist _, .inl (by simp [zf9,finO])⟩
 |cons x l ih=>
  intro o m;obtain ⟨k,y⟩:=x;cases y with
  |none=>
   obtain ⟨ks,h1,h2⟩:=ih o m;exact ⟨ks,h1.cons _,h2⟩
  |some n=>
   simp only [zf9];by_cases hp:o.parts=[]
   ·rw [if_pos hp];by_cases hk:n.kind=1
    ·rw [if_pos hk];by_cases hm:0<n.mark
     ·rw [if_pos hm];exact ⟨[k],by simp, .inl (by simp [finO,hp])⟩
     ·rw [if_neg hm];obtain ⟨ks,h1,h2⟩:=ih ⟨true,⟨p,1,⟨#[]⟩,n.time,0⟩,[k]⟩ (max m n.mark);refine ⟨k::ks,h1.cons_cons _,?_⟩
      rcases h2 with h2|h2
      ·exact .inl (by rw [h2,hp];rfl)
      ·exact .inr h2
    ·rw [if_neg hk]
     split
     ·exact ⟨[],List.nil_sublist _, .inr rfl⟩
     ·exact ⟨[],List.nil_sublist _, .inr rfl⟩
   ·rw [if_neg hp];by_cases hk:n.kind=1
    ·rw [if_pos hk];by_cases hm:0<n.mark
     ·rw [if_pos hm];exact ⟨[k],by simp, .inl (by simp [finO])⟩
     ·rw [if_neg hm];obtain ⟨ks,h1,h2⟩:=ih ⟨o.ok,o.node,o.parts++[k]⟩ (max m n.mark);refine ⟨k::ks,h1.cons_cons _,?_⟩
      rcases h2 with h2|h2
      ·exact .inl (by rw [h2];simp)
      ·exact .inr h2
    ·rw [if_neg hk];exact ⟨[],List.nil_sublist _, .inl (by simp [finO])⟩
theorem go_path (p:ByteArray):∀ (ns:List (Option Nd)) (k:Nat) (s:Sg),(∀n,some n∈ns→n.path=p)→(s.told=true→s.node.path=p)→(goD k s ns).told=true→(goD k s ns).node.path=p:=by
 intro ns
 induction ns with
 |nil=>intro k s _ hs h;exact hs h
 |cons x ns ih=>
  intro k s hn hs h;have hn':∀n,some n∈ns→n.path=p:=fun n hm=>hn n (List.mem_cons_of_mem _ hm);cases x with
  |none=>exact ih _ _ hn' hs h
  |some n=>
   have h1:=hn n List.mem_cons_self
   have ht:(zh1 s k n).node.path=p:=by
    unfold zh1 zm;cases hst:s.told
    ·exact h1
    ·exact hs hst
   rw [goD] at h ⊢
   split at h
   ·rw [if_pos (by assumption)];exact ht
   ·rw [if_neg (by assumption)];exact ih _ _ hn' (fun _=>ht) h
theorem dec_path {p:ByteArray} {ns:List (Option Nd)} (hn:∀n,some n∈ns→n.path=p) (h:(decS ns).told=true):(decS ns).node.path=p:=by
 unfold decS upS at h ⊢
 split at h
 ·cases h
 ·rw [if_neg (by assumption)];exact go_path p ns 0 Sg.zero hn (fun h2=>by cases h2) h
theorem mark_node {n:Nd} {m:Int} (h:za7 n=true) (hk:n.kind=1) (hm:0≤m∧m≤8):za7 ⟨n.path,n.kind,n.data,n.time,m⟩=true:=by
 unfold za7 at h ⊢;simp only [Bool.and_eq_true,decide_eq_true_eq] at h ⊢;refine ⟨⟨h.1.1,hm⟩,?_⟩;have h2:=h.2;unfold zj9 at h2 ⊢;simp only [hk] at h2 ⊢
 simpa using h2
theorem go_node:∀ (ns:List (Option Nd)) (k:Nat) (s:Sg),(∀n,some n∈ns→za7 n=true)→(s.told=true→za7 s.node=true∧s.node.kind=1)→(goD k s ns).told=true→za7 (goD k s ns).node=true:=by
 intro ns
 induction ns with
 |nil=>intro k s _ hs h;exact (hs h).1
 |cons x ns ih=>
  intro k s hn hs h;have hn':∀n,some n∈ns→za7 n=true:=fun n hm=>hn n (List.mem_cons_of_mem _ hm);cases x with
  |none=>exact ih _ _ hn' hs h
  |some n=>
   have h1:=hn n List.mem_cons_self;have hb:=zd8 h1
   have ht:za7 (zh1 s k n).node=true∧(n.kind=1→(zh1 s k n).node.kind=1):=by
    unfold zh1 zm;cases hst:s.told
    ·simp only [Bool.false_eq_true,if_false];rw [Int.max_self];exact ⟨h1,fun h=>h⟩
    ·obtain ⟨h2,h3⟩:=hs hst;have hb2:=zd8 h2;simp only [if_true];exact ⟨mark_node h2 h3 (by omega),fun _=>h3⟩
   rw [goD] at h ⊢
   split at h
   ·rw [if_pos (by assumption)];exact ht.1
   ·rename_i hst
    rw [if_neg hst];refine ih _ _ hn' (fun _=>⟨ht.1,ht.2 ?_⟩) h;simp [zj5] at hst
    exact hst.1
theorem up_node {s:Sg} (h:s.told=true→za7 s.node=true) (ht:(upS s).told=true):za7 (upS s).node=true:=by
 unfold upS at ht ⊢
 split at ht
 ·cases ht
 ·rename_i hz
  rw [if_neg hz];have h1:=h ht;have hb:=zd8 h1;unfold za7 at h1 ⊢;simp only [Bool.and_eq_true,decide_eq_true_eq] at h1 ⊢;refine ⟨⟨h1.1.1,by omega⟩,?_⟩;have h2:=h1.2;unfold zj9 at h2 ⊢;simp only at hz h2 ⊢;by_cases k0:s.node.kind=0
  ·simp only [k0,if_true,Bool.and_eq_true,decide_eq_true_eq,true_and] at hz h2 ⊢;exact ⟨h2.1,by omega⟩
  ·by_cases k1:s.node.kind=1
   ·simp only [if_neg k0,if_pos k1] at h2 ⊢;exact h2
   ·simp only [if_neg k0,if_neg k1] at h2 ⊢
    split at h2
    ·rename_i k2
     rw [if_pos k2];simp only [decide_eq_true_eq] at h2 ⊢;omega
    ·cases h2
theorem dec_node {ns:List (Option Nd)} (hn:∀n,some n∈ns→za7 n=true) (ht:(decS ns).told=true):za7 (decS ns).node=true:=
 up_node (fun h=>go_node ns 0 Sg.zero hn (fun h2=>by cases h2) h) ht
end Pl
end
section
open Go.RowKit
namespace Pl
def getV (L:List Nd) (p:ByteArray):Value:=
 if 8000<p.size then .agg #[.string ⟨#[]⟩, .int .i64 0, .string ⟨#[]⟩, .int .i64 0, .int .i64 0, .int .i64 2] else if za5 L=false∨p.size=0∨za1 p=false then .agg #[.string ⟨#[]⟩, .int .i64 0, .string ⟨#[]⟩, .int .i64 0, .int .i64 0, .int .i64 1] else
  match L.find? (fun m=>decide (m.path=p)) with |none=> .agg #[.string ⟨#[]⟩, .int .i64 0, .string ⟨#[]⟩, .int .i64 0, .int .i64 0, .int .i64 6]|some m=> .agg #[.string m.path, .int .i64 m.kind, .string m.data, .int .i64 m.time, .int .i64 m.mark, .int .i64 0]
theorem get_long {L:List Nd} {p:ByteArray} (h:8000<p.size):getV L p= .agg #[.string ⟨#[]⟩, .int .i64 0, .string ⟨#[]⟩, .int .i64 0, .int .i64 0, .int .i64 2]:=by rw [getV,if_pos h]
theorem get_form {L:List Nd} {p:ByteArray} (h:¬8000<p.size) (h2:za5 L=false∨p.size=0∨za1 p=false):getV L p= .agg #[.string ⟨#[]⟩, .int .i64 0, .string ⟨#[]⟩, .int .i64 0, .int .i64 0, .int .i64 1]:=by rw [getV,if_neg h,if_pos h2]
theorem get_none {L:List Nd} {p:ByteArray} (h:¬8000<p.size) (h2:¬ (za5 L=false∨p.size=0∨za1 p=false)) (hf:L.find? (fun m=>decide (m.path=p))=none):getV L p= .agg #[.string ⟨#[]⟩, .int .i64 0, .string ⟨#[]⟩, .int .i64 0, .int .i64 0, .int .i64 6]:=by rw [getV,if_neg h,if_neg h2,hf]
theorem get_some {L:List Nd} {p:ByteArray} {m:Nd} (h:¬8000<p.size) (h2:¬ (za5 L=false∨p.size=0∨za1 p=false)) (hf:L.find? (fun m=>decide (m.path=p))=some m):getV L p= .agg #[.string m.path, .int .i64 m.kind, .string m.data, .int .i64 m.time, .int .i64 m.mark, .int .i64 0]:=by rw [getV,if_neg h,if_neg h2,hf]
theorem zl1 {L:List Nd} (h:za5 L=true):L.Pairwise (fun a b=>a.path≠b.path):=by
 have h2:goI [] ⟨#[]⟩ L=true:=by unfold za5 at h;simp at h;exact h.2
 exact (yf4 L [] ⟨#[]⟩ h2 (zh3 rfl).1).1.imp (fun {a b} hab e=>by rw [e,zj8] at hab;cases hab)
end Pl
end
section
namespace Pl
def zq (p:ByteArray):List Nd→List Nd
 | []=>[]
 |m::R=>if m.path=p then R else m::R
def zg5 (n m:Nd):Bool:=za9 (names m.path) (names n.path)
def putL (L:List Nd) (n:Nd):List Nd:=L.takeWhile (zg5 n)++n::zq n.path (L.dropWhile (zg5 n))
theorem put_at (L:List Nd) (n:Nd) (k:Nat) (hk:k≤L.length) (h1:∀ (j:Nat) m,j<k→L[j]? =some m→zg5 n m=true) (h2:∀m,L[k]? =some m→zg5 n m=false):putL L n=L.take k++n::zq n.path (L.drop k):=by
 have h:L.takeWhile (zg5 n)=L.take k∧L.dropWhile (zg5 n)=L.drop k:=by
  induction L generalizing k with
  |nil=>simp
  |cons m L ih=>
   match k with
   |0=>
    have :=h2 m rfl;rw [List.takeWhile_cons,List.dropWhile_cons,this];simp
   |k+1=>
    have :=h1 0 m (by omega) rfl;rw [List.takeWhile_cons,List.dropWhile_cons,this];have i:=ih k (by simpa using hk) (fun j x hj hx=>h1 (j+1) x (by omega) (by simpa using hx)) (fun x hx=>h2 x (by simpa using hx));simp only [if_true,List.take_succ_cons,List.drop_succ_cons];exact ⟨by rw [i.1],i.2⟩
 rw [putL,h.1,h.2]
theorem rest_drop (L:List Nd) (p:ByteArray) (k:Nat):zq p (L.drop k)=L.drop (if (∃m,L[k]? =some m∧m.path=p) then k+1 else k):=by
 by_cases hk:k<L.length
 ·rw [List.drop_eq_getElem_cons hk,zq];have e:L[k]? =some L[k]:=List.getElem?_eq_getElem hk;by_cases h:L[k].path=p
  ·rw [if_pos h,if_pos ⟨_,e,h⟩]
  ·rw [if_neg h,if_neg (fun ⟨m,hm,hp⟩=>by rw [e] at hm;cases hm;exact h hp),List.drop_eq_getElem_cons hk]
 ·rw [if_neg (fun ⟨m,hm,_⟩=>by have :=(List.getElem?_eq_some_iff.1 hm).1;omega)];rw [List.drop_eq_nil_of_le (by omega)];rfl
theorem ye0 (L:List Nd) (n:Nd):(putL L n).length≤L.length+1:=by
 have h1:=congrArg List.length (List.takeWhile_append_dropWhile (p:=zg5 n) (l:=L));rw [List.length_append] at h1
 have h2:(zq n.path (L.dropWhile (zg5 n))).length≤(L.dropWhile (zg5 n)).length:=by
  cases L.dropWhile (zg5 n) with
  |nil=>exact Nat.le_refl _
  |cons m R=>rw [zq];split <;> simp
 rw [putL,List.length_append,List.length_cons];omega
theorem take_all {n:Nd} (L:List Nd):∀m∈L.takeWhile (zg5 n),zg5 n m=true:=fun m hm=>by
 induction L with
 |nil=>simp at hm
 |cons x L ih=>
  rw [List.takeWhile_cons] at hm;cases h:zg5 n x
  ·rw [h] at hm;simp at hm
  ·rw [h] at hm;simp only [if_true,List.mem_cons] at hm
   rcases hm with rfl |hm
   ·exact h
   ·exact ih hm
theorem put_ok {L:List Nd} {n:Nd} (hL:∀m∈L,za1 m.path=true) (hn:za1 n.path=true) (hr:L.Pairwise (fun a b=>ltP a.path b.path=true)):
  (putL L n).Pairwise (fun a b=>ltP a.path b.path=true)∧(putL L n).Perm (L.filter (fun m=>!decide (m.path=n.path))++[n]):=by
 have hsp:=List.takeWhile_append_dropWhile (p:=zg5 n) (l:=L);have hA:=take_all (n:=n) L
 have hR:∀m,(L.dropWhile (zg5 n)).head? =some m→zg5 n m=false:=fun m hm=>by
  have :=List.head?_dropWhile_not (zg5 n) L;rw [hm] at this
  simpa using this
 unfold putL;generalize L.takeWhile (zg5 n)=A at hsp hA;generalize L.dropWhile (zg5 n)=R at hsp hR;subst hsp;rw [List.pairwise_append] at hr;obtain ⟨rA,rR,rAR⟩:=hr;have hLA:∀m∈A,za1 m.path=true:=fun m hm=>hL m (List.mem_append_left _ hm);have hLR:∀m∈R,za1 m.path=true:=fun m hm=>hL m (List.mem_append_right _ hm);have ltA:∀m∈A,ltP m.path n.path=true:=fun m hm=>by rw [zd4 (hLA m hm) hn];exact hA m hm
 have neA:∀m∈A,m.path≠n.path:=fun m hm e=>by
  have :=hA m hm;rw [zg5,e,zj8] at this;cases this
 have trn:∀ {a b c:ByteArray},za1 a=true→za1 b=true→za1 c=true→ltP a b=true→ltP b c=true→ltP a c=true:=fun ha hb hc h1 h2=>by
  rw [zd4 ha hb] at h1;rw [zd4 hb hc] at h2;rw [zd4 ha hc];exact zm3 _ _ _ h1 h2
 have ltn:∀ {a b:ByteArray},za1 a=true→ltP a b=true→a≠b:=fun ha h e=>by
  subst e;rw [zd4 ha ha,zj8] at h;cases h
 have key:(∀m∈zq n.path R,ltP n.path m.path=true∧za1 m.path=true∧m∈R)∧(zq n.path R).Pairwise (fun a b=>ltP a.path b.path=true)∧R.filter (fun m=>!decide (m.path=n.path))=zq n.path R:=by
  match R,hR,rR,hLR with
  | [],_,_,_=>exact ⟨fun m hm=>by simp [zq] at hm,List.Pairwise.nil,rfl⟩
  |x::R,hR,rR,hLR=>
   have hx:=hR x rfl;have px:=hLR x List.mem_cons_self;have rR':=List.pairwise_cons.1 rR;by_cases e:x.path=n.path
   ·rw [zq,if_pos e];refine ⟨fun m hm=>⟨by rw [←e];exact rR'.1 m hm,hLR m (List.mem_cons_of_mem _ hm),List.mem_cons_of_mem _ hm⟩,rR'.2,?_⟩;rw [List.filter_cons,if_neg (by simp [e])]
    exact List.filter_eq_self.2 (fun m hm=>by
     have :=ltn px (rR'.1 m hm);rw [e] at this
     simpa using fun h=>this h.symm)
   ·rw [zq,if_neg e]
    have hnx:ltP n.path x.path=true:=by
     have :=two_less px hn e
     change ltP x.path n.path= !ltP n.path x.path at this
     rw [zd4 px hn] at this;rw [zg5] at hx;rw [hx] at this;cases h:ltP n.path x.path
     ·rw [h] at this;cases this
     ·rfl
    have all:∀m∈x::R,ltP n.path m.path=true:=fun m hm=>by
     rcases List.mem_cons.1 hm with rfl |hm
     ·exact hnx
     ·exact trn hn px (hLR m (List.mem_cons_of_mem _ hm)) hnx (rR'.1 m hm)
    refine ⟨fun m hm=>⟨all m hm,hLR m hm,hm⟩,rR,?_⟩
    exact List.filter_eq_self.2 (fun m hm=>by
     have :=ltn hn (all m hm)
     simpa using fun h=>this h.symm)
 obtain ⟨k1,k2,k3⟩:=key
 constructor
 ·rw [List.pairwise_append];refine ⟨rA,List.pairwise_cons.2 ⟨fun m hm=>(k1 m hm).1,k2⟩,fun a ha b hb=>?_⟩
  rcases List.mem_cons.1 hb with rfl |hb
  ·exact ltA a ha
  ·exact rAR a ha b (k1 b hb).2.2
 ·rw [List.filter_append,k3,List.filter_eq_self.2 (fun m hm=>by simpa using neA m hm),List.append_assoc];exact List.Perm.append_left _ (List.perm_append_comm (l₁:=[n]) (l₂:=zq n.path R))
end Pl
end
section
open Go.RowKit
namespace Pl
theorem apart_put {L:List Nd} {n:Nd} (hC:L.Pairwise (fun a b=>a.path≠b.path)):(L.filter (fun m=>!decide (m.path=n.path))++[n]).Pairwise (fun a b=>a.path≠b.path):=by
 rw [List.pairwise_append];refine ⟨hC.filter _,by simp,fun a ha b hb=>?_⟩;simp at hb;subst hb
 have :=(List.mem_filter.1 ha).2
 simpa using this
theorem mem_put {L:List Nd} {n m:Nd} (h:m∈L.filter (fun m=>!decide (m.path=n.path))++[n]):m∈L∨m=n:=by
 rcases List.mem_append.1 h with h|h
 ·exact .inl (List.mem_filter.1 h).1
 ·simp at h;exact .inr h
end Pl
end
section
namespace Pl
def zb7 (q p:ByteArray):Bool:= !decide (q=p)&&(za1 q&&za1 p&&zm7 (zb q) (zb p))
def zf8 (L:List Nd) (p:ByteArray):List Nd:=(L.dropWhile (fun n=>!zb7 n.path p)).takeWhile (fun n=>zb7 n.path p)
theorem mid_L:∀P A B C:List ByteArray,(∀ (j:Nat) t,P[j]? =some t→A[j]? =some t)→(∀ (j:Nat) t,P[j]? =some t→C[j]? =some t)→za9 A B=true→za9 B C=true→∀ (j:Nat) t,P[j]? =some t→B[j]? =some t:=by
 intro P
 induction P with
 |nil=>intro A B C _ _ _ _ j t h;simp at h
 |cons x P ih=>
  intro A B C hA hC h1 h2 j t hj;have a0:=hA 0 x rfl;have c0:=hC 0 x rfl
  match A,a0 with
  |a::A,a0=>
   simp at a0
   match C,c0 with
   |c::C,c0=>
    simp at c0
    subst a0 c0
    match B,h1,h2 with
    | [],h1,_=>simp [za9] at h1
    |b::B,h1,h2=>
     have e:b=c:=by
      by_cases e:b=c
      ·exact e
      ·exfalso;rw [za9,if_neg (fun h=>e h.symm)] at h1;rw [za9,if_neg e] at h2;have hne:c.toList≠b.toList:=fun h=>e (zi3 (by rw [ByteArray.toList_eq,ByteArray.toList_eq] at h;exact h.symm));rw [zw9 _ _ hne,h2] at h1;cases h1
     subst e;rw [za9,if_pos rfl] at h1 h2
     match j,hj with
     |0,hj=>simpa using hj
     |j+1,hj=>
      have hj':P[j]? =some t:=by simpa using hj
      have :=ih A B C (fun i u hu=>by have :=hA (i+1) u (by simpa using hu);simpa using this) (fun i u hu=>by have :=hC (i+1) u (by simpa using hu);simpa using this) h1 h2 j t hj'
      simpa using this
theorem mid {a b c p:ByteArray} (ha:za1 a=true) (hb:za1 b=true) (hc:za1 c=true) (h1:ltP a b=true) (h2:ltP b c=true) (ka:zb7 a p=true) (kc:zb7 c p=true):zb7 b p=true:=by
 rw [zd4 ha hb] at h1;rw [zd4 hb hc] at h2;simp only [zb7,Bool.and_eq_true,Bool.not_eq_true',decide_eq_false_iff_not] at ka kc ⊢;obtain ⟨_,⟨_,hp⟩,ua⟩:=ka;obtain ⟨_,_,uc⟩:=kc;rw [zc1 ha,zc1 hp] at ua;rw [zc1 hc,zc1 hp] at uc;have hm:=mid_L _ _ _ _ ((zn7 _ _).1 ua) ((zn7 _ _).1 uc) h1 h2;refine ⟨fun e=>?_,⟨hb,hp⟩,?_⟩
 ·subst e;rw [less_under _ _ ((zn7 _ _).1 ua)] at h1;cases h1
 ·rw [zc1 hb,zc1 hp];exact (zn7 _ _).2 hm
theorem take_filter {p:ByteArray}:∀ (L:List Nd) (n:Nd),za1 n.path=true→zb7 n.path p=true→(∀m∈L,za1 m.path=true∧ltP n.path m.path=true)→L.Pairwise (fun a b=>ltP a.path b.path=true)→
  L.takeWhile (fun m=>zb7 m.path p)=L.filter (fun m=>zb7 m.path p):=by
 intro L
 induction L with
 |nil=>intros;rfl
 |cons b L ih=>
  intro n hn hk hL hr;have hb:=hL b List.mem_cons_self;have hr':=List.pairwise_cons.1 hr;cases kb:zb7 b.path p
  ·have hf:(b::L).filter (fun m=>zb7 m.path p)=[]:=by
    rw [List.filter_eq_nil_iff];intro c hc kc
    rcases List.mem_cons.1 hc with e|hc
    ·subst e;rw [kb] at kc;cases kc
    ·have :=mid hn hb.1 (hL c (List.mem_cons_of_mem _ hc)).1 hb.2 (hr'.1 c hc) hk kc;rw [kb] at this;cases this
   rw [hf,List.takeWhile_cons,kb];rfl
  ·rw [List.takeWhile_cons,List.filter_cons,kb];simp only [if_true];rw [ih b hb.1 kb (fun m hm=>⟨(hL m (List.mem_cons_of_mem _ hm)).1,hr'.1 m hm⟩) hr'.2]
theorem piece_filter (p:ByteArray):∀ (L:List Nd),(∀n∈L,za1 n.path=true)→L.Pairwise (fun a b=>ltP a.path b.path=true)→zf8 L p=L.filter (fun n=>zb7 n.path p):=by
 intro L
 induction L with
 |nil=>intros;rfl
 |cons n L ih=>
  intro hok hr;have hr':=List.pairwise_cons.1 hr;cases k:zb7 n.path p
  ·rw [zf8,List.dropWhile_cons,k,List.filter_cons,k];simp only [Bool.not_false,if_true,Bool.false_eq_true,if_false];exact ih (fun m hm=>hok m (List.mem_cons_of_mem _ hm)) hr'.2
  ·rw [zf8,List.dropWhile_cons,k,List.filter_cons,k];simp only [Bool.not_true,Bool.false_eq_true,if_false,if_true];rw [List.takeWhile_cons,k];simp only [if_true];rw [take_filter L n (hok n List.mem_cons_self) k (fun m hm=>⟨hok m (List.mem_cons_of_mem _ hm),hr'.1 m hm⟩) hr'.2]
theorem piece_at (L:List Nd) (p:ByteArray) (i j:Nat) (hij:i≤j) (_hj:j≤L.length) (h1:∀ (k:Nat) n,k<i→L[k]? =some n→zb7 n.path p=false) (h2:∀n,L[i]? =some n→zb7 n.path p=true)
  (h3:∀ (k:Nat) n,i≤k→k<j→L[k]? =some n→zb7 n.path p=true) (h4:∀n,L[j]? =some n→zb7 n.path p=false):zf8 L p=(L.drop i).take (j - i):=by
 have hd:L.dropWhile (fun n=>!zb7 n.path p)=L.drop i:=by
  clear h3 h4 hij _hj j
  induction L generalizing i with
  |nil=>simp
  |cons n L ih=>
   match i with
   |0=>
    have :=h2 n rfl;rw [List.dropWhile_cons,this];simp
   |i+1=>
    have :=h1 0 n (by omega) rfl;rw [List.dropWhile_cons,this];simp only [Bool.not_false,if_true,List.drop_succ_cons];exact ih i (fun k m hk hm=>h1 (k+1) m (by omega) (by simpa using hm)) (fun m hm=>h2 m (by simpa using hm))
 rw [zf8,hd];have hlen:(L.drop i).length=L.length - i:=by simp
 have h3':∀ (k:Nat) n,k<j - i→(L.drop i)[k]? =some n→zb7 n.path p=true:=fun k n hk hn=>h3 (i+k) n (by omega) (by omega) (by simpa [List.getElem?_drop] using hn);have h4':∀n,(L.drop i)[j - i]? =some n→zb7 n.path p=false:=fun n hn=>h4 n (by rw [List.getElem?_drop,show i+(j - i)=j by omega] at hn;exact hn);generalize L.drop i=M at h3' h4';generalize j - i=q at h3' h4';clear hd h1 h2 h3 h4 hlen hij _hj
 induction M generalizing q with
 |nil=>simp
 |cons n M ih=>
  match q with
  |0=>have :=h4' n rfl;rw [List.takeWhile_cons,this];simp
  |q+1=>
   have :=h3' 0 n (by omega) rfl;rw [List.takeWhile_cons,this];simp only [if_true,List.take_succ_cons];rw [ih q (fun k m hk hm=>h3' (k+1) m (by omega) (by simpa using hm)) (fun m hm=>h4' m (by simpa using hm))]
theorem zz3 {L:List Nd} {p:ByteArray}:(zf8 L p).length=0↔L.any (fun n=>zb7 n.path p)=false:=by
 induction L with
 |nil=>simp [zf8]
 |cons n L ih=>
  cases k:zb7 n.path p
  ·rw [zf8,List.dropWhile_cons,k,List.any_cons,k]
   simpa [zf8] using ih
  ·rw [zf8,List.dropWhile_cons,k,List.any_cons,k];simp [k]
end Pl
end
section
open Go.RowKit
namespace Pl
def offL (p:ByteArray) (L:List Nd):List Nd:=L.filter (fun n=>!under n.path p)
theorem offN_in {L:List Nd} {p:ByteArray} {k:Nat} {n:Nd} (hn:L[k]? =some n) (h:under n.path p=false):offL p (L.take (k+1))=offL p (L.take k)++[n]:=by
 have h1:=List.getElem?_eq_some_iff.1 hn;rw [List.take_succ_eq_append_getElem h1.1,h1.2];simp [offL,h]
theorem offN_out {L:List Nd} {p:ByteArray} {k:Nat} {n:Nd} (hn:L[k]? =some n) (h:under n.path p=true):offL p (L.take (k+1))=offL p (L.take k):=by
 have h1:=List.getElem?_eq_some_iff.1 hn;rw [List.take_succ_eq_append_getElem h1.1,h1.2];simp [offL,h]
theorem offN_len (L:List Nd) (p:ByteArray) (k:Nat):(offL p (L.take k)).length≤k:=by
 have h1:(offL p (L.take k)).length≤(L.take k).length:=by simpa [offL] using List.length_filter_le _ (L.take k)
 have h2:(L.take k).length≤k:=by simp;omega
 omega
end Pl
end
section
namespace Pl
inductive Fo where
 |nil:Fo
 |cons (kids more:Fo):Fo
namespace Fo
def len:Fo→Nat
 | .nil=>0
 | .cons _ m=>m.len+1
def depth:Fo→Nat
 | .nil=>0
 | .cons k m=>max (k.depth+1) m.depth
def level:Fo→Nat
 | .nil=>0
 | .cons k _=>1+k.level
def app:Fo→Fo→Fo
 | .nil,r=>r
 | .cons k m,r=> .cons k (m.app r)
theorem app_nil (a:Fo):a.app .nil=a:=by
 induction a with
 |nil=>rfl
 |cons k m _ ih=>rw [app,ih]
theorem app_assoc (a b c:Fo):(a.app b).app c=a.app (b.app c):=by
 induction a with
 |nil=>rfl
 |cons k m _ ih=>rw [app,app,app,ih]
theorem len_app (a b:Fo):(a.app b).len=a.len+b.len:=by
 induction a with
 |nil=>simp [app,len]
 |cons k m _ ih=>rw [app,len,len,ih];omega
theorem depth_app (a b:Fo):(a.app b).depth=max a.depth b.depth:=by
 induction a with
 |nil=>simp [app,depth]
 |cons k m _ ih=>rw [app,depth,depth,ih];omega
theorem yi9 (k:Fo):(Fo.cons k .nil).depth=k.depth+1:=by simp [depth]
end Fo
abbrev Row:=List (Option Nat)
def parse:Nat→Nat→Row→Option (Fo × Row)
 |_,0,L=>some (.nil,L)
 |0,_+1,_=>none
 |_+1,_+1,[]=>none
 |_+1,_+1,none::_=>none
 |f+1,k+1,some m::L=>match parse f m L with
  |none=>none
  |some (kids,R)=>match parse f k R with
   |none=>none
   |some (more,R')=>some (.cons kids more,R')
theorem yc6 (f:Nat):∀k L F R,parse f k L=some (F,R)→F.len=k∧R.length+k≤L.length∧∃n,R=L.drop n:=by
 induction f with
 |zero=>
  intro k L F R h;cases k with
  |zero=>simp [parse] at h;obtain ⟨rfl,rfl⟩:=h;exact ⟨rfl,Nat.le_refl _,0,rfl⟩
  |succ k=>simp [parse] at h
 |succ f ih=>
  intro k L F R h;cases k with
  |zero=>simp [parse] at h;obtain ⟨rfl,rfl⟩:=h;exact ⟨rfl,Nat.le_refl _,0,rfl⟩
  |succ k=>
   match L,h with
   | [],h=>simp [parse] at h
   |none::L,h=>simp [parse] at h
   |some m::L,h=>
    simp only [parse] at h
    split at h
    ·cases h
    ·rename_i kids R1 h1
     split at h
     ·cases h
     ·rename_i more R2 h2
      cases h
      obtain ⟨a1,a2,n1,a3⟩:=ih _ _ _ _ h1;obtain ⟨b1,b2,n2,b3⟩:=ih _ _ _ _ h2;refine ⟨by rw [Fo.len,b1],by simp;omega,n1+n2+1,?_⟩;rw [b3,a3,List.drop_drop,List.drop_succ_cons]
theorem parse_fuel (f:Nat):∀g k (L:Row),L.length≤f→L.length≤g→parse f k L=parse g k L:=by
 induction f with
 |zero=>
  intro g k L h1 h2;have :L=[]:=List.eq_nil_of_length_eq_zero (by omega);subst this;cases k <;> cases g <;> simp [parse]
 |succ f ih=>
  intro g k L h1 h2;cases k with
  |zero=>cases g <;> simp [parse]
  |succ k=>
   match L,h1,h2 with
   | [],_,_=>cases g <;> simp [parse]
   |none::L,_,h2=>cases g <;> simp [parse]
   |some m::L,h1,h2=>
    cases g with
    |zero=>simp at h2
    |succ g=>
     simp only [List.length_cons] at h1 h2;simp only [parse];rw [ih g m L (by omega) (by omega)]
     split
     ·rfl
     ·rename_i kids R h
      have :=(yc6 _ _ _ _ _ h).2.1;rw [ih g k R (by omega) (by omega)]
def take (k:Nat) (L:Row):Option (Fo × Row):=parse L.length k L
theorem take_zero (L:Row):take 0 L=some (.nil,L):=by unfold take;cases L.length <;> rfl
theorem yh0 (k m:Nat) (L:Row):take (k+1) (some m::L)=match take m L with
  |none=>none
  |some (kids,R)=>match take k R with
   |none=>none
   |some (more,R')=>some (.cons kids more,R'):=by
 unfold take;simp only [List.length_cons,parse]
 split
 ·rfl
 ·rename_i kids R h
  have :=(yc6 _ _ _ _ _ h).2.1;rw [parse_fuel L.length R.length k R (by omega) (Nat.le_refl _)]
theorem takeF_len {k:Nat} {L:Row} {F:Fo} {R:Row} (h:take k L=some (F,R)):F.len=k∧R.length+k≤L.length∧R=L.drop (L.length - R.length):=by
 obtain ⟨h1,h2,n,h3⟩:=yc6 _ _ _ _ _ h;refine ⟨h1,h2,?_⟩;by_cases hn:n≤L.length
 ·have :R.length=L.length - n:=by rw [h3,List.length_drop]
  rw [this,Nat.sub_sub_self hn];exact h3
 ·have e:R=[]:=by rw [h3];exact List.drop_eq_nil_of_le (by omega)
  subst e;simp
theorem yf9 (m:Nat) (L:Row):take 1 (some m::L)=(take m L).map (fun x=>(.cons x.1 .nil,x.2)):=by
 rw [show (1:Nat)=0+1 from rfl,yh0];cases h:take m L with
 |none=>rfl
 |some x=>obtain ⟨a,b⟩:=x;simp [take_zero]
theorem yh4 (k:Nat) (L:Row):take (k+1) L=match take 1 L with
  |none=>none
  |some (F,R)=>match take k R with
   |none=>none
   |some (more,R')=>some (F.app more,R'):=by
 match L with
 | []=>rfl
 |none::L=>rfl
 |some m::L=>
  rw [yf9,yh0];cases h:take m L with
  |none=>rfl
  |some x=>obtain ⟨a,b⟩:=x;rfl
theorem one_shape {L:Row} {F:Fo} {R:Row} (h:take 1 L=some (F,R)):∃kids,F= .cons kids .nil:=by
 match L,h with
 | [],h=>cases h
 |none::L,h=>cases h
 |some m::L,h=>
  rw [yf9] at h;cases h':take m L with
  |none=>rw [h'] at h;simp at h
  |some x=>rw [h'] at h;simp at h;exact ⟨x.1,h.1.symm⟩
def ends (k deep:Nat) (L:Row):Option Row:=match take k L with
 |none=>none
 |some (F,R)=>if deep+F.depth≤5 then some R else none
theorem ends_zero (deep:Nat) (L:Row) (h:deep≤5):ends 0 deep L=some L:=by
 unfold ends;rw [take_zero];simp [Fo.depth,h]
theorem ends_step (k deep:Nat) (L:Row):ends (k+1) deep L=(ends 1 deep L).bind (ends k deep):=by
 unfold ends;rw [yh4];cases h:take 1 L with
 |none=>rfl
 |some x=>
  obtain ⟨F,R⟩:=x;simp only;cases h2:take k R with
  |none=>
   by_cases h3:deep+F.depth≤5
   ·simp only [if_pos h3,Option.bind_some,h2]
   ·simp only [if_neg h3,Option.bind_none]
  |some y=>
   obtain ⟨M,R'⟩:=y;simp only [Fo.depth_app];by_cases h3:deep+F.depth≤5
   ·rw [if_pos h3];simp only [Option.bind_some,h2];by_cases h4:deep+M.depth≤5
    ·rw [if_pos h4,if_pos (by omega)]
    ·rw [if_neg h4,if_neg (by omega)]
   ·rw [if_neg h3,if_neg (by omega)];rfl
theorem ends_one (m deep:Nat) (L:Row):ends 1 deep (some m::L)=ends m (deep+1) L:=by
 unfold ends;rw [yf9];cases h1:take m L with
 |none=>rfl
 |some x=>
  obtain ⟨F,R⟩:=x;simp only [Option.map_some];have hd:=Fo.yi9 F;by_cases h2:deep+1+F.depth≤5
  ·rw [if_pos h2,if_pos (by omega)]
  ·rw [if_neg h2,if_neg (by omega)]
theorem ends_none (deep:Nat) (L:Row):ends 1 deep (none::L)=none:=rfl
theorem ends_nil (deep:Nat):ends 1 deep []=none:=rfl
theorem ends_deep (deep:Nat) (L:Row) (h:4<deep):ends 1 deep L=none:=by
 unfold ends;cases h1:take 1 L with
 |none=>rfl
 |some x=>
  obtain ⟨F,R⟩:=x;obtain ⟨kids,rfl⟩:=one_shape h1;have hd:=Fo.yi9 kids;exact if_neg (by omega)
theorem ends_len {k deep:Nat} {L R:Row} (h:ends k deep L=some R):R.length+k≤L.length∧R=L.drop (L.length - R.length):=by
 unfold ends at h;cases h1:take k L with
 |none=>rw [h1] at h;cases h
 |some x=>
  obtain ⟨F,R'⟩:=x;rw [h1] at h;simp only at h
  split at h
  ·cases h;exact (takeF_len h1).2
  ·cases h
def nest (L:Row):Option Fo:=if L.length≤12 then match take 1 L with
 |some (.cons k .nil,[])=>if k.depth≤3 then some k else none
 |_=>none else none
theorem nest_yes {L:Row} {k:Fo} (h:nest L=some k):L.length≤12∧take 1 L=some (.cons k .nil,[])∧k.depth≤3:=by
 unfold nest at h
 split at h
 ·split at h
  ·split at h
   ·cases h;exact ⟨by assumption,by assumption,by assumption⟩
   ·cases h
  ·cases h
 ·cases h
theorem nest_ends (L:Row) (h:L.length≤12):(nest L).isSome=true↔ends 1 1 L=some []:=by
 unfold nest ends;rw [if_pos h];cases h1:take 1 L with
 |none=>simp
 |some x=>
  obtain ⟨F,R⟩:=x;obtain ⟨k,rfl⟩:=one_shape h1;have hd:=Fo.yi9 k;cases R with
  |nil=>
   simp only;by_cases h2:k.depth≤3
   ·rw [if_pos h2,if_pos (by omega)];simp
   ·rw [if_neg h2,if_neg (by omega)];simp
  |cons a b=>simp only;split <;> simp
theorem yj (L:Row) (h:¬L.length≤12):nest L=none:=by unfold nest;rw [if_neg h]
theorem level_at (F:Fo):∀k L R kids more,F= .cons kids more→take k L=some (F,R)→(∀j,j<kids.level→∃m,L[j]? =some (some (m+1)))∧L[kids.level]? =some (some 0):=by
 induction F with
 |nil=>intro k L R kids more h;cases h
 |cons a b ih _=>
  intro k L R kids more h ht;cases h
  match k,L,ht with
  |0,L,ht=>rw [take_zero] at ht;cases ht
  |k+1,[],ht=>cases ht
  |k+1,none::L,ht=>cases ht
  |k+1,some m::L,ht=>
   rw [yh0] at ht;cases h1:take m L with
   |none=>rw [h1] at ht;cases ht
   |some x=>
    obtain ⟨c,S⟩:=x;rw [h1] at ht;simp only at ht;cases h2:take k S with
    |none=>rw [h2] at ht;cases ht
    |some y=>
     rw [h2] at ht;simp at ht
     obtain ⟨⟨rfl, -⟩, -⟩:=ht;have hl:=(takeF_len h1).1;cases c with
     |nil=>
      simp [Fo.len] at hl
      subst hl;exact ⟨fun j hj=>absurd hj (by simp [Fo.level]),rfl⟩
     |cons p q=>
      simp [Fo.len] at hl
      obtain ⟨i1,i2⟩:=ih _ _ _ _ _ rfl h1;refine ⟨fun j hj=>?_,?_⟩
      ·cases j with
       |zero=>exact ⟨m - 1,by simp;omega⟩
       |succ j=>simpa using i1 j (by simp [Fo.level] at hj;omega)
      ·rw [Fo.level,Nat.add_comm];simpa using i2
theorem yl2 {L:Row} {k:Fo} (h:nest L=some k):(∀j,j<k.level→∃m,L[j]? =some (some (m+1)))∧L[k.level]? =some (some 0):=
 level_at _ _ _ _ _ _ rfl (nest_yes h).2.1
end Pl
end
section
namespace Pl
def zk (m:Int) (L:List Nd):Bool:=decide (0≤m)&&decide (m≤4)&&(decide (m=0)||L.isEmpty)&&za5 L
def zr1 (x:Int × List Nd):Option Nat:=if zk x.1 x.2=true then some x.1.toNat else none
def rowO (xs:List (Int × List Nd)):Row:=xs.map zr1
theorem treeB_nil:za5 []=true:=by rfl
theorem ym8 (L:List Nd):zk 0 L=za5 L:=by simp [zk]
theorem yf5 {m:Int} (h:m≠0) (L:List Nd):zk m L=(decide (1≤m)&&decide (m≤4)&&decide (L.length=0)):=by
 unfold zk;rw [show decide (m=0)=false from decide_eq_false h,Bool.false_or];have e:decide (0≤m)=decide (1≤m):=decide_eq_decide.2 (by omega);rw [e];cases L with
 |nil=>simp [treeB_nil]
 |cons a L=>simp
theorem yd5 {m:Int} {L:List Nd} (h:zk m L=true):0≤m∧m≤4:=by
 simp [zk] at h
 exact ⟨h.1.1.1,h.1.1.2⟩
theorem itemO_yes {m:Int} {L:List Nd} (h:zk m L=true):zr1 (m,L)=some m.toNat:=by simp [zr1,h]
theorem itemO_no {m:Int} {L:List Nd} (h:zk m L=false):zr1 (m,L)=none:=by simp [zr1,h]
theorem ym0 {x:Int × List Nd} {k:Nat} (h:zr1 x=some k):x.1=(k:Int)∧k≤4:=by
 unfold zr1 at h
 split at h
 ·rename_i hb
  have :=yd5 hb;cases h
  omega
 ·cases h
theorem zw0 (xs:List (Int × List Nd)):(rowO xs).length=xs.length:=by simp [rowO]
theorem rowO_at {xs:List (Int × List Nd)} {i:Nat} {x:Int × List Nd} (h:xs[i]? =some x):(rowO xs).drop i=zr1 x::(rowO xs).drop (i+1):=by
 obtain ⟨h1,h2⟩:=List.getElem?_eq_some_iff.1 h;rw [List.drop_eq_getElem_cons (by rw [zw0];exact h1)]
 congr 1
 simp [rowO,h2]
def endI (n:Nat):Option Row→Int
 |none=> -1
 |some R=>(n:Int) - (R.length:Int)
theorem ends_at {k deep p n:Nat} {L R:Row} (hn:L.length=n) (hp:p≤n) (h:ends k deep (L.drop p)=some R):∃p':Nat,endI n (some R)=(p':Int)∧p'≤n∧L.drop p'=R:=by
 obtain ⟨h1,h2⟩:=ends_len h;rw [List.length_drop] at h1 h2;refine ⟨n - R.length,by rw [endI];omega,by omega,?_⟩;rw [List.drop_drop] at h2;have e:p+(L.length - p - R.length)=n - R.length:=by omega
 rw [e] at h2;exact h2.symm
def Fo.sz:Fo→Nat
 | .nil=>0
 | .cons k m=>k.sz+m.sz+1
theorem Fo.len_le (F:Fo):F.len≤F.sz:=by
 induction F with
 |nil=>simp [Fo.len]
 |cons k m _ ih=>simp only [Fo.len,Fo.sz];omega
theorem Fo.depth_le (F:Fo):F.depth≤F.sz:=by
 induction F with
 |nil=>simp [Fo.depth]
 |cons k m ih1 ih2=>simp only [Fo.depth,Fo.sz];omega
theorem parse_sz (f:Nat):∀k L F R,parse f k L=some (F,R)→F.sz+R.length=L.length:=by
 induction f with
 |zero=>
  intro k L F R h;cases k with
  |zero=>simp [parse] at h;obtain ⟨rfl,rfl⟩:=h;simp [Fo.sz]
  |succ k=>simp [parse] at h
 |succ f ih=>
  intro k L F R h;cases k with
  |zero=>simp [parse] at h;obtain ⟨rfl,rfl⟩:=h;simp [Fo.sz]
  |succ k=>
   match L,h with
   | [],h=>simp [parse] at h
   |none::L,h=>simp [parse] at h
   |some m::L,h=>
    simp only [parse] at h
    split at h
    ·cases h
    ·rename_i kids R1 h1
     split at h
     ·cases h
     ·rename_i more R2 h2
      cases h
      have a1:=ih _ _ _ _ h1;have a2:=ih _ _ _ _ h2;simp only [Fo.sz,List.length_cons];omega
theorem take_sz {k:Nat} {L R:Row} {F:Fo} (h:take k L=some (F,R)):F.sz+R.length=L.length:=parse_sz _ _ _ _ _ h
theorem level_le (k:Fo):k.level≤k.depth:=by
 induction k with
 |nil=>simp [Fo.level]
 |cons a b ih _=>simp only [Fo.level,Fo.depth];omega
theorem nest_fail {L:Row} (h:take 1 L=none):nest L=none:=by
 unfold nest;rw [h];simp
theorem nest_rest {L R:Row} {k:Fo} (h:take 1 L=some (.cons k .nil,R)) (hR:R.length≠0):nest L=none:=by
 unfold nest;rw [h];cases R with
 |nil=>simp at hR
 |cons a b=>simp
theorem nest_deep {L R:Row} {k:Fo} (h:take 1 L=some (.cons k .nil,R)) (hd:4<k.depth+1):nest L=none:=by
 unfold nest;rw [h];cases R with
 |nil=>simp only;rw [if_neg (show ¬k.depth≤3 by omega)];simp
 |cons a b=>simp
theorem nest_ok {L R:Row} {k:Fo} (h12:L.length≤12) (h:take 1 L=some (.cons k .nil,R)) (hR:R.length=0) (hd:¬4<k.depth+1):nest L=some k:=by
 have e:R=[]:=List.eq_nil_of_length_eq_zero hR;subst e;unfold nest;rw [if_pos h12,h];simp only;rw [if_pos (show k.depth≤3 by omega)]
def went (F:Fo) (o:Option (Fo × Row)):Option (Fo × Row):=o.map (fun y=>(F.app y.1,y.2))
theorem went_start (o:Option (Fo × Row)):went .nil o=o:=by cases o <;> rfl
theorem went_step {F kids:Fo} {k:Nat} {L R:Row} (h:take 1 L=some (.cons kids .nil,R)):went F (take (k+1) L)=went (F.app (.cons kids .nil)) (take k R):=by
 rw [yh4,h];cases h2:take k R with
 |none=>simp [went,h2]
 |some y=>obtain ⟨m,R'⟩:=y;simp [went,h2,Fo.app_assoc]
theorem went_fail {F:Fo} {k:Nat} {L:Row} (h:take 1 L=none):went F (take (k+1) L)=none:=by
 rw [yh4,h];rfl
theorem went_end (F:Fo) (L:Row):went F (take 0 L)=some (F,L):=by simp [went,take_zero,Fo.app_nil]
theorem rowO_drop (xs:List (Int × List Nd)) (k:Nat):(rowO xs).drop k=rowO (xs.drop k):=by simp [rowO,List.map_drop]
end Pl
end
section
namespace Pl
inductive Fx where
 |nil:Fx
 |cons (L:List Nd) (kids more:Fx):Fx
namespace Fx
def shape:Fx→Fo
 | .nil=> .nil
 | .cons _ k m=> .cons k.shape m.shape
def len:Fx→Nat
 | .nil=>0
 | .cons _ _ m=>m.len+1
def sz:Fx→Nat
 | .nil=>0
 | .cons _ k m=>k.sz+m.sz+1
def flat:Fx→List (Int × List Nd)
 | .nil=>[]
 | .cons L k m=>((k.len:Int),L)::(k.flat++m.flat)
def app:Fx→Fx→Fx
 | .nil,r=>r
 | .cons L k m,r=> .cons L k (m.app r)
def okX:Fx→Prop
 | .nil=>True
 | .cons L k m=>za5 L=true∧(k= .nil∨L=[])∧k.len≤4∧k.okX∧m.okX
theorem zy2 (X:Fx):X.shape.len=X.len:=by
 induction X with
 |nil=>rfl
 |cons L k m _ ih=>rw [shape,Fo.len,len,ih]
theorem yb1 (X:Fx):X.shape.sz=X.sz:=by
 induction X with
 |nil=>rfl
 |cons L k m ih1 ih2=>rw [shape,Fo.sz,sz,ih1,ih2]
theorem zw6 (X:Fx):X.flat.length=X.sz:=by
 induction X with
 |nil=>rfl
 |cons L k m ih1 ih2=>rw [flat,List.length_cons,List.length_append,ih1,ih2,sz]
theorem shape_app (a b:Fx):(a.app b).shape=a.shape.app b.shape:=by
 induction a with
 |nil=>rfl
 |cons L k m _ ih=>rw [app,shape,shape,ih];rfl
theorem len_app (a b:Fx):(a.app b).len=a.len+b.len:=by
 induction a with
 |nil=>simp [app,len]
 |cons L k m _ ih=>rw [app,len,len,ih];omega
theorem flat_app (a b:Fx):(a.app b).flat=a.flat++b.flat:=by
 induction a with
 |nil=>rfl
 |cons L k m _ ih=>rw [app,flat,flat,ih];simp
theorem ok_app {a b:Fx} (ha:a.okX) (hb:b.okX):(a.app b).okX:=by
 induction a with
 |nil=>exact hb
 |cons L k m _ ih=>exact ⟨ha.1,ha.2.1,ha.2.2.1,ha.2.2.2.1,ih ha.2.2.2.2⟩
theorem shape_nil {X:Fx} (h:X.shape= .nil):X= .nil:=by
 cases X with
 |nil=>rfl
 |cons L k m=>cases h
theorem yg5 {X:Fx} (h:X.len=0):X= .nil:=by
 cases X with
 |nil=>rfl
 |cons L k m=>simp [len] at h
theorem len_le (X:Fx):X.len≤X.sz:=by
 induction X with
 |nil=>exact Nat.le_refl _
 |cons L k m _ ih=>rw [len,sz];omega
theorem ok_mem {X:Fx} (h:X.okX):∀x∈X.flat,za5 x.2=true∧0≤x.1∧x.1≤4:=by
 induction X with
 |nil=>intro x hx;cases hx
 |cons L k m ih1 ih2=>
  intro x hx;rw [flat,List.mem_cons,List.mem_append] at hx
  rcases hx with rfl |hx|hx
  ·exact ⟨h.1,by omega,by have :=h.2.2.1;omega⟩
  ·exact ih1 h.2.2.2.1 x hx
  ·exact ih2 h.2.2.2.2 x hx
end Fx
end Pl
end
section
namespace Pl
theorem yc3 {q p:ByteArray} (hq:za1 q=true) (h0:q.size≠0) (h:parent q=p):names q=names p++[base q]:=by
 have hn:names p=(names q).dropLast:=by rw [←h,zr3 hq,yh3 hq]
 have hne:names q≠[]:=zw7 h0;have hl:=List.length_pos_iff.2 hne;have hc:(names q).dropLast++[(names q).getLast hne]=names q:=List.dropLast_concat_getLast hne
 have hd:(names q).drop ((names q).length - 1)=[(names q).getLast hne]:=by
  have e:(names q).length - 1=(names q).dropLast.length:=by rw [List.length_dropLast]
  rw [e]
  conv=>lhs;arg 2;rw [←hc]
  exact List.drop_left
 rw [hn,base_glue,hd,glue_one,hc]
theorem zz9 {L:List Nd} (h:za5 L=true):∀n∈L,za1 n.path=true∧n.path.size≠0:=by
 simp only [za5,Bool.and_eq_true,decide_eq_true_eq] at h;exact fun n hn=>zb1 (zt L _ _ h.2 n hn)
end Pl
end
section
open Go.RowKit
namespace Pl
theorem ns_mem:∀ (ab:List Bool) (Ls:List (List Nd)) (p:ByteArray) (n:Nd),some n∈nsOf ab Ls p→∃L∈Ls,n∈L:=by
 intro ab
 induction ab with
 |nil=>intro Ls p n h;simp [nsOf] at h
 |cons a ab ih=>
  intro Ls p n h;cases Ls with
  |nil=>simp [nsOf] at h
  |cons L Ls=>
   rw [nsOf] at h
   rcases List.mem_cons.1 h with h|h
   ·cases a
    ·simp at h
    ·simp only [if_true] at h
     exact ⟨L,List.mem_cons_self,by
      have h2:=h.symm;unfold lk at h2
      exact List.mem_of_find?_eq_some h2⟩
   ·obtain ⟨M,hM,hn⟩:=ih Ls p n h;exact ⟨M,List.mem_cons_of_mem _ hM,hn⟩
end Pl
end
section
open Go.RowKit
namespace Pl
def zeroO:Ot:=⟨false,za6,[]⟩
def askO (Ls:List (List Nd)) (ks:List Nat) (q:ByteArray):List (Nat × Option Nd):=ks.map (fun k=>(k,lk (Ls.getD k []) q))
def zi5 (Ls:List (List Nd)) (ks:List Nat) (q:ByteArray):Ot:=zf9 q zeroO 0 (askO Ls ks q)
end Pl
end
section
namespace Pl
def zh0 (p:ByteArray) (L:List Nd):List ByteArray:=(L.filter (fun n=>decide (parent n.path=p))).map (fun n=>base n.path)
theorem kids_in {L:List Nd} {p:ByteArray} {k:Nat} {n:Nd} (hn:L[k]? =some n) (h:parent n.path=p):zh0 p (L.take (k+1))=zh0 p (L.take k)++[base n.path]:=by
 have h1:=List.getElem?_eq_some_iff.1 hn;rw [List.take_succ_eq_append_getElem h1.1,h1.2];simp [zh0,h]
theorem kids_out {L:List Nd} {p:ByteArray} {k:Nat} {n:Nd} (hn:L[k]? =some n) (h:parent n.path≠p):zh0 p (L.take (k+1))=zh0 p (L.take k):=by
 have h1:=List.getElem?_eq_some_iff.1 hn;rw [List.take_succ_eq_append_getElem h1.1,h1.2];simp [zh0,h]
theorem kids_len (p:ByteArray) (L:List Nd) (k:Nat):(zh0 p (L.take k)).length≤k:=by
 have h1:(zh0 p (L.take k)).length≤(L.take k).length:=by simpa [zh0] using List.length_filter_le _ (L.take k)
 have h2:(L.take k).length≤k:=by simp;omega
 omega
theorem zx9 {L:List Nd} (h:za5 L=true):L.Pairwise (fun a b=>a.path≠b.path):=by
 have h2:goI [] ⟨#[]⟩ L=true:=by unfold za5 at h;simp at h;exact h.2
 exact (yf4 L [] ⟨#[]⟩ h2 (zh3 rfl).1).1.imp (fun {a b} hab e=>by rw [e,zj8] at hab;cases hab)
theorem tree_rise' {L:List Nd} (h:za5 L=true):L.Pairwise (fun a b=>ltP a.path b.path=true):=by
 simp only [za5,Bool.and_eq_true,decide_eq_true_eq] at h;have hn:=zt L _ _ h.2;have hr:=(yf4 L [] ⟨#[]⟩ h.2 (zh3 rfl).1).1;exact List.Pairwise.imp_of_mem (fun {a b} ha hb hab=>by rw [zd4 (zb1 (hn a ha)).1 (zb1 (hn b hb)).1];exact hab) hr
end Pl
namespace ya3
theorem tl_eq {a b:ByteArray} (h:a≠b):(a.toList==b.toList)=false:=by
 rw [beq_eq_false_iff_ne];intro e;exact h (Pl.zi3 (by rw [ByteArray.toList_eq,ByteArray.toList_eq] at e;exact e))
end ya3
end
section
open Go.RowKit
namespace Pl
def zp5 (a b:ByteArray):Bool:=Op.bytesLess a.toList b.toList
def insN (t:ByteArray):List ByteArray→List ByteArray
 | []=>[t]
 |a::l=>if zp5 a t=true then a::insN t l else if a=t then a::l else t::a::l
theorem ins_at (t:ByteArray):∀ (l:List ByteArray) (k:Nat),(∀ (j:Nat) x,j<k→l[j]? =some x→zp5 x t=true)→(∀x,l[k]? =some x→zp5 x t=false)→k≤l.length→insN t l=if l[k]? =some t then l else l.take k++[t]++l.drop k:=by
 intro l
 induction l with
 |nil=>
  intro k _ _ hk;have :k=0:=by simpa using hk
  subst this;simp [insN]
 |cons a l ih=>
  intro k h1 h2 hk;cases k with
  |zero=>
   have h3:=h2 a rfl;rw [insN,if_neg (by rw [h3];simp)];by_cases e:a=t
   ·simp [e]
   ·simp [e]
  |succ k=>
   have h3:=h1 0 a (by omega) rfl;rw [insN,if_pos h3,ih k (fun j x hj hx=>h1 (j+1) x (by omega) (by simpa using hx)) (fun x hx=>h2 x (by simpa using hx)) (by simpa using hk)];simp only [List.getElem?_cons_succ,List.take_succ_cons,List.drop_succ_cons,List.cons_append]
   split <;> rfl
theorem ins_len (t:ByteArray) (l:List ByteArray):(insN t l).length≤l.length+1:=by
 induction l with
 |nil=>simp [insN]
 |cons a l ih=>
  rw [insN]
  split
  ·simp;omega
  ·split <;> simp
end Pl
end
section
open Go.RowKit
namespace Pl
def zi (out:List ByteArray) (K:List ByteArray):List ByteArray:=K.foldl (fun o t=>insN t o) out
def zg6 (Ls:List (List Nd)) (q:ByteArray) (ks:List Nat):List ByteArray:=ks.foldl (fun o k=>zi o (zh0 q (Ls.getD k []))) []
theorem insAll_step {out K:List ByteArray} {i:Nat} {t:ByteArray} (h:K[i]? =some t):zi out (K.take (i+1))=insN t (zi out (K.take i)):=by
 have h1:=List.getElem?_eq_some_iff.1 h;rw [List.take_succ_eq_append_getElem h1.1,h1.2,zi,List.foldl_append];rfl
theorem namesK_step {Ls:List (List Nd)} {q:ByteArray} {ks:List Nat} {j k:Nat} {L:List Nd} (h:ks[j]? =some k) (hL:Ls[k]? =some L):zg6 Ls q (ks.take (j+1))=zi (zg6 Ls q (ks.take j)) (zh0 q L):=by
 have h1:=List.getElem?_eq_some_iff.1 h;rw [List.take_succ_eq_append_getElem h1.1,h1.2,zg6,List.foldl_append];show zi _ (zh0 q (Ls.getD k []))=_;rw [show Ls.getD k []=L by simp [List.getD,hL]];rfl
end Pl
end
section
namespace Pl
theorem find_path {L:List Nd} {p:ByteArray} {m:Nd} (h:L.find? (fun m=>decide (m.path=p))=some m):m.path=p:=by
 have :=List.find?_some h
 simpa using this
theorem goS_iff (L:List Nd):∀ (r:List Nd) (prev:Option ByteArray),goS L prev r=true↔(∀n∈r,za7 n=true∧dirS L (parent n.path)=true)∧r.Pairwise (fun a b=>za9 (names a.path) (names b.path)=true)∧∀n∈r,prevB prev n.path=true:=by
 intro r
 induction r with
 |nil=>intro prev;simp [goS]
 |cons m r ih=>
  intro prev;simp only [goS,Bool.and_eq_true];rw [ih]
  constructor
  ·rintro ⟨⟨⟨h1,h2⟩,h3⟩,h4,h5,h6⟩;refine ⟨fun n hn=>?_,List.Pairwise.cons (fun n hn=>h6 n hn) h5,fun n hn=>?_⟩
   ·rcases List.mem_cons.1 hn with rfl |hn
    ·exact ⟨h1,h3⟩
    ·exact h4 n hn
   ·rcases List.mem_cons.1 hn with rfl |hn
    ·exact h2
    ·cases prev with
     |none=>rfl
     |some q=>exact zm3 _ _ _ h2 (h6 n hn)
  ·rintro ⟨h1,h2,h3⟩;obtain ⟨h4,h5⟩:=List.pairwise_cons.1 h2;exact ⟨⟨⟨(h1 m (List.mem_cons_self ..)).1,h3 m (List.mem_cons_self ..)⟩,(h1 m (List.mem_cons_self ..)).2⟩,fun n hn=>h1 n (List.mem_cons_of_mem _ hn),h5,fun n hn=>h4 n hn⟩
theorem ze2 (L:List Nd):za5 L=true↔L.length≤40∧(∀n∈L,za7 n=true∧dirS L (parent n.path)=true)∧L.Pairwise (fun a b=>za9 (names a.path) (names b.path)=true):=by
 rw [za5,←tree_same,Bool.and_eq_true,decide_eq_true_eq,goS_iff]
 constructor
 ·rintro ⟨h1,h2,h3, -⟩;exact ⟨h1,h2,h3⟩
 ·rintro ⟨h1,h2,h3⟩;exact ⟨h1,h2,h3,fun n hn=>rfl⟩
theorem zt9 {L:List Nd} (h:L.Pairwise (fun a b=>za9 (names a.path) (names b.path)=true)) (p:ByteArray):dirS L p=true↔p.size=0∨∃m∈L,m.path=p∧m.kind=1:=by
 simp only [dirS,Bool.or_eq_true,decide_eq_true_eq];refine or_congr Iff.rfl ?_;cases hf:L.find? (fun m=>decide (m.path=p)) with
 |none=>
  rw [List.find?_eq_none] at hf
  constructor
  ·intro h;cases h
  ·rintro ⟨m,hm,e,_⟩;exact absurd (decide_eq_true e) (hf m hm)
 |some m'=>
  have h1:=List.mem_of_find?_eq_some hf;have h2:=find_path hf;simp only [decide_eq_true_eq]
  constructor
  ·intro h3;exact ⟨m',h1,h2,h3⟩
  ·rintro ⟨m,hm,e,hk⟩;rw [one_path h h1 hm (h2.trans e.symm)];exact hk
end Pl
end
section
namespace Pl
def fill:Fo→List (Int × List Nd)→Fx × List (Int × List Nd)
 | .nil,xs=>(.nil,xs)
 | .cons _ _,[]=>(.nil,[])
 | .cons k m,x::xs=>(.cons x.2 (fill k xs).1 (fill m (fill k xs).2).1,(fill m (fill k xs).2).2)
theorem fill_flat (X:Fx):∀R,fill X.shape (X.flat++R)=(X,R):=by
 induction X with
 |nil=>intro R;rfl
 |cons L k m ih1 ih2=>
  intro R;rw [Fx.shape,Fx.flat,List.cons_append,fill,List.append_assoc,ih1,ih2]
def zn1 (xs:List (Int × List Nd)):Option (List Nd × Fx):=match nest (rowO xs) with
 |none=>none
 |some k=>match (fill (.cons k .nil) xs).1 with
  | .cons L K _=>some (L,K)
  | .nil=>none
theorem zt1 {xs:List (Int × List Nd)} (h:nest (rowO xs)=none):zn1 xs=none:=by unfold zn1;rw [h]
theorem zz8 {xs:List (Int × List Nd)} {L:List Nd} {k:Fx} (h:nest (rowO xs)=some k.shape) (hf:(Fx.cons L k .nil).flat=xs):zn1 xs=some (L,k):=by
 unfold zn1;rw [h];have :=fill_flat (Fx.cons L k .nil) [];rw [List.append_nil,hf] at this;have e2:fill (Fo.cons k.shape .nil) xs=(Fx.cons L k .nil,[]):=this;simp only [e2]
theorem parse_fill (f:Nat):∀k (xs:List (Int × List Nd)) F R,parse f k (rowO xs)=some (F,R)→∃X rest,Fx.shape X=F∧R=rowO rest∧xs=X.flat++rest∧X.okX:=by
 induction f with
 |zero=>
  intro k xs F R h;cases k with
  |zero=>simp [parse] at h;obtain ⟨rfl,rfl⟩:=h;exact ⟨.nil,xs,rfl,rfl,rfl,trivial⟩
  |succ k=>simp [parse] at h
 |succ f ih=>
  intro k xs F R h;cases k with
  |zero=>simp [parse] at h;obtain ⟨rfl,rfl⟩:=h;exact ⟨.nil,xs,rfl,rfl,rfl,trivial⟩
  |succ k=>
   cases xs with
   |nil=>simp [rowO,parse] at h
   |cons x xs=>
    have e:rowO (x::xs)=zr1 x::rowO xs:=rfl;rw [e] at h;cases hx:zr1 x with
    |none=>rw [hx] at h;simp [parse] at h
    |some m=>
     rw [hx] at h;simp only [parse] at h
     split at h
     ·cases h
     ·rename_i kids R1 h1
      split at h
      ·cases h
      ·rename_i more R2 h2
       cases h
       obtain ⟨K,r1,e1,e2,e3,o1⟩:=ih _ _ _ _ h1;rw [e2] at h2;obtain ⟨M,r2,e4,e5,e6,o2⟩:=ih _ _ _ _ h2;have hm:=ym0 hx;have hl:K.len=m:=by rw [←Fx.zy2,e1];exact (yc6 _ _ _ _ _ h1).1
       have hb:zk x.1 x.2=true:=by
        unfold zr1 at hx
        split at hx
        ·assumption
        ·cases hx
       have hb2:za5 x.2=true∧(x.1=0∨x.2=[]):=by
        unfold zk at hb;simp only [Bool.and_eq_true,Bool.or_eq_true,decide_eq_true_eq,List.isEmpty_iff] at hb;exact ⟨hb.2,hb.1.2⟩
       refine ⟨.cons x.2 K M,r2,by rw [Fx.shape,e1,e4],e5,?_,hb2.1,?_,by omega,o1,o2⟩
       ·rw [Fx.flat,hl,←hm.1,List.cons_append,List.append_assoc,←e6,←e3]
       ·rcases hb2.2 with h0|h0
        ·exact .inl (Fx.yg5 (by omega))
        ·exact .inr h0
theorem zm5 {xs:List (Int × List Nd)} {F:Fo} (h:nest (rowO xs)=some F):∃L k,Fx.shape k=F∧(Fx.cons L k .nil).flat=xs∧(Fx.cons L k .nil).okX∧zn1 xs=some (L,k):=by
 obtain ⟨-,h2, -⟩:=nest_yes h;obtain ⟨X,rest,e1,e2,e3,o⟩:=parse_fill _ _ _ _ _ h2
 have hr:rest=[]:=by
  cases rest with
  |nil=>rfl
  |cons a b=>simp [rowO] at e2
 subst hr;rw [List.append_nil] at e3;cases X with
 |nil=>cases e1
 |cons L k m=>
  rw [Fx.shape] at e1;simp only [Fo.cons.injEq] at e1;have hm:=Fx.shape_nil e1.2;subst hm;refine ⟨L,k,e1.1,e3.symm,o,zz8 (by rw [e1.1];exact h) e3.symm⟩
theorem zo6 {xs:List (Int × List Nd)} {F:Fo} (h:nest (rowO xs)=some F):xs.length≤12:=by
 have :=(nest_yes h).1;rw [zw0] at this;exact this
end Pl
end
section
open Go.RowKit
namespace Pl
def Nd.bare (n:Nd):Nd:=⟨n.path,n.kind,n.data,n.time,0⟩
def zc8 (L:List Nd):List Nd:=(L.filter (fun n=>!decide (n.kind=0))).map Nd.bare
theorem plainL_in {L:List Nd} {k:Nat} {n:Nd} (hn:L[k]? =some n) (h:n.kind≠0):zc8 (L.take (k+1))=zc8 (L.take k)++[n.bare]:=by
 have h1:=List.getElem?_eq_some_iff.1 hn;rw [List.take_succ_eq_append_getElem h1.1,h1.2];simp [zc8,h]
theorem yl6 {L:List Nd} {k:Nat} {n:Nd} (hn:L[k]? =some n) (h:n.kind=0):zc8 (L.take (k+1))=zc8 (L.take k):=by
 have h1:=List.getElem?_eq_some_iff.1 hn;rw [List.take_succ_eq_append_getElem h1.1,h1.2];simp [zc8,h]
theorem zz0 (L:List Nd) (k:Nat):(zc8 (L.take k)).length≤k:=by
 have h1:(zc8 (L.take k)).length≤(L.take k).length:=by simpa [zc8] using List.length_filter_le _ (L.take k)
 have h2:(L.take k).length≤k:=by simp;omega
 omega
def plainO (L:List Nd):List Nd:=if za5 L then zc8 L else []
def zy (L:List Nd):Int:=if za5 L then 0 else 1
end Pl
end
section
namespace Pl
def zd0 (L:List Nd):Bool:=za5 L&&L.all (fun n=>decide (n.mark=0))
theorem plain_not {L:List Nd} (h:za5 L=false):zd0 L=false:=by simp [zd0,h]
theorem plain_bad {L:List Nd} {k:Nat} {n:Nd} (hn:L[k]? =some n) (h:n.mark≠0):zd0 L=false:=by
 have :L.all (fun n=>decide (n.mark=0))=false:=by
  rw [List.all_eq_false];exact ⟨n,List.mem_of_getElem? hn,by simpa using h⟩
 simp [zd0,this]
theorem yl7 {L:List Nd} (h:∀ (j:Nat) n,L[j]? =some n→n.mark=0):zd0 L=za5 L:=by
 have :L.all (fun n=>decide (n.mark=0))=true:=by
  rw [List.all_eq_true];intro n hn;obtain ⟨j,hj⟩:=List.mem_iff_getElem?.1 hn
  simpa using h j n hj
 simp [zd0,this]
theorem tree_node {L:List Nd} (h:za5 L=true) {k:Nat} {n:Nd} (hn:L[k]? =some n):za7 n=true:=by
 simp only [za5,Bool.and_eq_true] at h;exact zt L _ _ h.2 n (List.mem_of_getElem? hn)
theorem gone_mark {n:Nd} (h:za7 n=true) (hk:n.kind=0):n.mark≠0:=by
 have :=(zd8 h).2.2.2;simp [zj9,hk] at this
 omega
end Pl
end
section
namespace Pl
theorem bare_node {n:Nd} (h:za7 n=true) (hk:n.kind≠0):za7 n.bare=true:=by
 simp only [za7,Bool.and_eq_true,decide_eq_true_eq] at h ⊢;obtain ⟨⟨⟨⟨⟨h1,h2⟩,h3⟩,h4⟩,h5⟩,h6⟩:=h;refine ⟨⟨⟨⟨⟨h1,h2⟩,h3⟩,h4⟩,by simp [Nd.bare]⟩,?_⟩;unfold zj9 at h6 ⊢;have e:n.bare.kind=n.kind:=rfl;rw [e,if_neg hk] at *;by_cases hk1:n.kind=1
 ·rw [if_pos hk1] at h6 ⊢;exact h6
 ·rw [if_neg hk1] at h6 ⊢;by_cases hk2:n.kind=2
  ·rw [if_pos hk2];simp [Nd.bare]
  ·rw [if_neg hk2] at h6;cases h6
theorem yf6 {L:List Nd} {n:Nd}:n∈zc8 L↔∃m∈L,m.kind≠0∧m.bare=n:=by
 unfold zc8;rw [List.mem_map]
 constructor
 ·rintro ⟨m,hm,e⟩;obtain ⟨h1,h2⟩:=List.mem_filter.1 hm;exact ⟨m,h1,by simpa using h2,e⟩
 ·rintro ⟨m,h1,h2,e⟩;exact ⟨m,List.mem_filter.2 ⟨h1,by simpa using h2⟩,e⟩
theorem plainL_tree {L:List Nd} (h:za5 L=true):za5 (zc8 L)=true:=by
 rw [ze2] at h ⊢;obtain ⟨h1,h2,h3⟩:=h
 have hp:(zc8 L).Pairwise (fun a b=>za9 (names a.path) (names b.path)=true):=by
  unfold zc8;rw [List.pairwise_map];exact h3.filter _
 refine ⟨?_,fun n hn=>?_,hp⟩
 ·have :=zz0 L L.length;rw [List.take_length] at this;omega
 ·obtain ⟨m,hm,hk,rfl⟩:=yf6.1 hn;refine ⟨bare_node (h2 m hm).1 hk,?_⟩;rw [zt9 hp]
  rcases (zt9 h3 _).1 (h2 m hm).2 with hz|⟨q,hq,e,hq1⟩
  ·exact .inl hz
  ·exact .inr ⟨q.bare,yf6.2 ⟨q,hq,by rw [hq1];decide,rfl⟩,e,hq1⟩
theorem plainL_plain {L:List Nd} (h:za5 L=true):zd0 (zc8 L)=true:=by
 unfold zd0;rw [plainL_tree h,Bool.true_and,List.all_eq_true];intro n hn;obtain ⟨m, -, -,rfl⟩:=yf6.1 hn;rfl
end Pl
end
section
namespace Pl
theorem put_mem {L:List Nd} {n m:Nd} (h:m∈putL L n):m=n∨m∈L:=by
 rw [putL,List.mem_append,List.mem_cons] at h
 rcases h with h|h|h
 ·exact .inr ((List.takeWhile_sublist _).mem h)
 ·exact .inl h
 ·right
  have h2:m∈L.dropWhile (zg5 n):=by
   generalize L.dropWhile (zg5 n)=D at h ⊢;cases D with
   |nil=>simp [zq] at h
   |cons x D=>
    simp only [zq] at h
    split at h
    ·exact List.mem_cons_of_mem _ h
    ·exact h
  exact (List.dropWhile_sublist _).mem h2
end Pl
end
end Go.Proofs.YthdhhcgopfgcbaaGreatDoor
