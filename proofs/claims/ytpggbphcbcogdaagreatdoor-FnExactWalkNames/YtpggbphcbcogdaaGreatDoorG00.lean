/- Several texts of one claim in one file: Plain, PlainPath, PlainGlue, PlainPar. -/
import Derived.Laws.BitsAllLaws
namespace Go.Proofs.YtpggbphcbcogdaaGreatDoor
section
namespace Pl

def encF:Nat→Nat→List UInt8
 |0,u=>[UInt8.ofNat u]
 |f+1,u=>if u<128 then [UInt8.ofNat u] else UInt8.ofNat (u % 128+128)::encF f (u / 128)
def enc (u:Nat):List UInt8:=encF u u
theorem encF_same (n:Nat):∀u f g,u≤n→u≤f→u≤g→encF f u=encF g u:=by
 induction n with
 |zero=>
  intro u f g hu _ _;obtain rfl:u=0:=by omega
  cases f <;> cases g <;> simp [encF]
 |succ n ih=>
  intro u f g hu hf hg;by_cases h:u<128
  ·cases f <;> cases g <;> simp [encF,h]
  ·obtain ⟨f,rfl⟩:∃f',f=f'+1:=⟨f - 1,by omega⟩;obtain ⟨g,rfl⟩:∃g',g=g'+1:=⟨g - 1,by omega⟩;rw [encF,encF,if_neg h,if_neg h,ih (u / 128) f g (by omega) (by omega) (by omega)]

theorem enc_small {u:Nat} (h:u<128):enc u=[UInt8.ofNat u]:=by
 unfold enc;cases u with
 |zero=>rfl
 |succ u=>rw [encF,if_pos h]
theorem enc_big {u:Nat} (h:128≤u):enc u=UInt8.ofNat (u % 128+128)::enc (u / 128):=by
 obtain ⟨f,hf⟩:∃f,u=f+1:=⟨u - 1,by omega⟩
 have e:encF u u=UInt8.ofNat (u % 128+128)::encF f (u / 128):=by
  rw [show encF u u=encF (f+1) u by rw [←hf],encF,if_neg (Nat.not_lt.2 h)]
 unfold enc;rw [e,encF_same f (u / 128) f (u / 128) (by omega) (by omega) (Nat.le_refl _)]

def zj3 (u:Nat):Nat→List UInt8
 |0=>[]
 |k+1=>zj3 u k++[UInt8.ofNat (u / 128 ^ k % 128+128)]
theorem zf4 (u k:Nat):(zj3 u k).length=k:=by
 induction k with
 |zero=>rfl
 |succ k ih=>simp [zj3,ih]
theorem enc_split (u k:Nat) (h:∀j,j<k→128≤u / 128 ^ j):enc u=zj3 u k++enc (u / 128 ^ k):=by
 induction k with
 |zero=>simp [zj3]
 |succ k ih=>
  rw [ih (fun j hj=>h j (by omega)),enc_big (h k (by omega)),zj3,Nat.div_div_eq_div_mul,Nat.pow_succ];simp

structure zk (u k X:Nat) (C:Array Value):Prop where
 rest:X=u / 128 ^ k
 big:∀j,j<k→128≤u / 128 ^ j
 cell:∀j,j<k→C[j]? =some (.int .u8 ((u / 128 ^ j % 128+128:Nat):Int))
theorem zk.start (u:Nat) (C:Array Value):zk u 0 u C:=⟨by simp,fun _ h=>absurd h (by omega),fun _ h=>absurd h (by omega)⟩
theorem lt_nine {u k X:Nat} (h3:X=u / 128 ^ k) (hX:128≤X) (hu:u<18446744073709551616):k<9:=by
 rcases Nat.lt_or_ge k 9 with h9|h9
 ·exact h9
 ·have h1:128 ^ 9≤128 ^ k:=Nat.pow_le_pow_right (by omega) h9;have h2:u / 128 ^ k≤u / 128 ^ 9:=Nat.div_le_div_left h1 (by decide);have h4:u / 128 ^ 9<2:=by omega
  omega
theorem zk.lt {u k X:Nat} {C:Array Value} (h:zk u k X C) (hX:128≤X) (hu:u<18446744073709551616):k<9:=lt_nine h.rest hX hu
theorem zk.step {u k X:Nat} {C:Array Value} (h:zk u k X C) (hX:128≤X) (hk:k<C.size):
  zk u (k+1) (X / 128) (C.setIfInBounds k (.int .u8 ((X % 128+128:Nat):Int))):=by
 refine ⟨?_,?_,?_⟩
 ·rw [h.rest,Nat.div_div_eq_div_mul,Nat.pow_succ]
 ·intro j hj
  rcases Nat.lt_succ_iff_lt_or_eq.1 hj with h'|rfl
  ·exact h.big j h'
  ·rw [←h.rest];exact hX
 ·intro j hj
  rcases Nat.lt_succ_iff_lt_or_eq.1 hj with h'|rfl
  ·rw [Array.getElem?_setIfInBounds_ne (by omega)];exact h.cell j h'
  ·rw [Array.getElem?_setIfInBounds_self_of_lt hk,h.rest]

theorem encTo_get (u k j:Nat) (h:j<k):(zj3 u k)[j]? =some (UInt8.ofNat (u / 128 ^ j % 128+128)):=by
 induction k with
 |zero=>omega
 |succ k ih=>
  rw [zj3]
  rcases Nat.lt_succ_iff_lt_or_eq.1 h with h'|rfl
  ·rw [List.getElem?_append_left (by rw [zf4];exact h')];exact ih h'
  ·rw [List.getElem?_append_right (by rw [zf4];exact Nat.le_refl _),zf4];simp
theorem zk.enc {u k X:Nat} {C:Array Value} (h:zk u k X C) (hX:X<128):enc u=zj3 u k++[UInt8.ofNat X]:=by
 rw [enc_split u k h.big,←h.rest,enc_small hX]
theorem zk.length {u k X:Nat} {C:Array Value} (h:zk u k X C) (hX:X<128):(Pl.enc u).length=k+1:=by
 rw [h.enc hX];simp [zf4]
theorem zk.bytes {u k X:Nat} {C:Array Value} (h:zk u k X C) (hX:X<128) (hk:k<C.size) (j:Nat) (hj:j<(Pl.enc u).length):
  (C.setIfInBounds k (.int .u8 (X:Int)))[j]? =some (.int .u8 ((Pl.enc u)[j].toNat:Int)):=by
 have hl:=h.length hX;have hg:(Pl.enc u)[j]? =some (Pl.enc u)[j]:=List.getElem?_eq_getElem hj;generalize (Pl.enc u)[j]=b at hg ⊢;rw [h.enc hX] at hg
 rcases Nat.lt_or_ge j k with hjk|hjk
 ·rw [List.getElem?_append_left (by rw [zf4];exact hjk),encTo_get u k j hjk] at hg;have hg:=(Option.some.inj hg).symm;rw [Array.getElem?_setIfInBounds_ne (by omega),h.cell j hjk];subst hg;simp [UInt8.toNat_ofNat']
  omega
 ·obtain rfl:j=k:=by omega
  rw [List.getElem?_append_right (by rw [zf4];exact Nat.le_refl _),zf4] at hg;have hg:UInt8.ofNat X=b:=by simpa using hg
  rw [Array.getElem?_setIfInBounds_self_of_lt hk];subst hg;simp [UInt8.toNat_ofNat']
  omega

def zd3 (b:UInt8):Value:= .int .u8 (b.toNat:Int)
structure zi6 (u k X:Nat):Prop where
 rest:X=u / 128 ^ k
 big:∀j,j<k→128≤u / 128 ^ j
theorem zi6.start (u:Nat):zi6 u 0 u:=⟨by simp,fun _ h=>absurd h (by omega)⟩
theorem zi6.lt {u k X:Nat} (h:zi6 u k X) (hX:128≤X) (hu:u<18446744073709551616):k<9:=lt_nine h.rest hX hu
theorem zi6.step {u k X:Nat} (h:zi6 u k X) (hX:128≤X):zi6 u (k+1) (X / 128):=by
 refine ⟨?_,?_⟩
 ·rw [h.rest,Nat.div_div_eq_div_mul,Nat.pow_succ]
 ·intro j hj
  rcases Nat.lt_succ_iff_lt_or_eq.1 hj with h'|rfl
  ·exact h.big j h'
  ·rw [←h.rest];exact hX
theorem zi6.enc {u k X:Nat} (h:zi6 u k X) (hX:X<128):Pl.enc u=zj3 u k++[UInt8.ofNat X]:=by
 rw [enc_split u k h.big,←h.rest,enc_small hX]
theorem zi6.cells {u k X:Nat} (h:zi6 u k X):(zj3 u k).map zd3++[.int .u8 ((X:Int) % 128+128)]=(zj3 u (k+1)).map zd3:=by
 rw [zj3,List.map_append,←h.rest]
 congr 1
 simp [zd3,UInt8.toNat_ofNat']
 omega
theorem zi6.last {u k X:Nat} (h:zi6 u k X) (hX:X<128):(zj3 u k).map zd3++[.int .u8 (X:Int)]=(Pl.enc u).map zd3:=by
 rw [h.enc hX,List.map_append]
 congr 1
 simp [zd3,UInt8.toNat_ofNat']
 omega
theorem zi6.length {u k X:Nat} (h:zi6 u k X) (hX:X<128):(Pl.enc u).length=k+1:=by rw [h.enc hX];simp [zf4]

def tot (ts:List ByteArray):Nat:=(ts.map ByteArray.size).sum
def cat (ts:List ByteArray):List UInt8:=(ts.map fun t=>t.data.toList).flatten
theorem zs7 (ts:List ByteArray):(cat ts).length=tot ts:=by
 induction ts with
 |nil=>rfl
 |cons t ts ih=>
  have h1:(cat (t::ts)).length=t.data.toList.length+(cat ts).length:=by simp [cat]
  have h2:tot (t::ts)=t.size+tot ts:=by simp [tot]
  rw [h1,h2,ih];rfl
theorem tot_snoc (ts:List ByteArray) (k:Nat) (t:ByteArray) (h:ts[k]? =some t):tot (ts.take (k+1))=tot (ts.take k)+t.size:=by
 rw [List.take_add_one,h];simp [tot]
theorem cat_snoc (ts:List ByteArray) (k:Nat) (t:ByteArray) (h:ts[k]? =some t):cat (ts.take (k+1))=cat (ts.take k)++t.data.toList:=by
 rw [List.take_add_one,h];simp [cat]
theorem tot_le (ts:List ByteArray) (k:Nat):tot (ts.take k)≤tot ts:=by
 have h:tot ts=tot (ts.take k)+tot (ts.drop k):=by
  have e:∀a b:List ByteArray,tot (a++b)=tot a+tot b:=fun a b=>by simp [tot]
  have :=e (ts.take k) (ts.drop k)
  rwa [List.take_append_drop] at this
 omega
theorem cat_one (a:ByteArray):cat [a]=a.data.toList:=by simp [cat]
theorem zx6 (a:List UInt8) (s:ByteArray):(⟨a.toArray⟩:ByteArray)++s=⟨(a++s.data.toList).toArray⟩:=by
 apply ByteArray.ext
 simp
theorem part_step {ts:List ByteArray} {k:Nat} {t:ByteArray} {cur:Array Value} (h:ts[k]? =some t)
  (hp:cur.toList.take (tot (ts.take k))=(cat (ts.take k)).map zd3):
  (cur.toList.take (tot (ts.take k))++t.data.toList.map zd3++cur.toList.drop (tot (ts.take k)+t.size)).toArray.toList.take (tot (ts.take (k+1)))=(cat (ts.take (k+1))).map zd3:=by
 have hl:(cat (ts.take (k+1))).length=tot (ts.take (k+1)):=zs7 _;rw [hp,←List.map_append,←cat_snoc ts k t h,List.take_append_of_le_length (by rw [List.length_map,hl];exact Nat.le_refl _),List.take_of_length_le (by rw [List.length_map,hl];exact Nat.le_refl _)]

def four (n:Nat):List UInt8:=[UInt8.ofNat n,UInt8.ofNat (n / 256),UInt8.ofNat (n / 65536),UInt8.ofNat (n / 16777216)]
theorem take_snoc (s:ByteArray) (k:Nat) (h:k<s.size):s.data.toList.take (k+1)=s.data.toList.take k++[s[k]]:=by
 rw [List.take_succ_eq_append_getElem (by simpa using h)];rfl

abbrev okAt (j n:Nat):Prop:=(97≤n∧n≤122)∨(j≠0∧((48≤n∧n≤57)∨n=95))
def zb4 (s:ByteArray):Bool:=decide (1≤s.size∧s.size≤20∧∀j,j<s.size→okAt j ((s.data.toList.getD j 0).toNat))
theorem zj6 (s:ByteArray) (k:Nat) (h:k<s.size):s.data.toList.getD k 0=s[k]:=by
 have h':k<s.data.size:=h;simp only [List.getD,Array.getElem?_toList];rw [Array.getElem?_eq_getElem h'];rfl
theorem zv8 {s:ByteArray} (h:s.size<1):zb4 s=false:=decide_eq_false (by omega)
theorem zr7 {s:ByteArray} (h:20<s.size):zb4 s=false:=decide_eq_false (by omega)
theorem zo5 {s:ByteArray} (k:Nat) (h:k<s.size) (hb:¬okAt k s[k].toNat):zb4 s=false:=
 decide_eq_false (fun ⟨_,_,ha⟩=>hb (by have :=ha k h;rwa [zj6 s k h] at this))
theorem zx3 {s:ByteArray} (h1:¬s.size<1) (h2:¬20<s.size) (h:∀j,j<s.size→okAt j ((s.data.toList.getD j 0).toNat)):zb4 s=true:=
 decide_eq_true ⟨by omega,by omega,h⟩
theorem zr2 {s:ByteArray} {k:Nat} (h:∀j,j<k→okAt j ((s.data.toList.getD j 0).toNat)) (hk:k<s.size) (ho:okAt k s[k].toNat):
  ∀j,j<k+1→okAt j ((s.data.toList.getD j 0).toNat):=by
 intro j hj
 rcases Nat.lt_succ_iff_lt_or_eq.1 hj with h'|rfl
 ·exact h j h'
 ·rw [zj6 s j hk];exact ho

theorem kinds (n:Int):(97≤n∧n≤122)∨(¬97≤n∧48≤n∧n≤57∧(n !=95)=true)∨(¬97≤n∧48≤n∧¬n≤57∧(n !=95)=true)∨
  (¬97≤n∧48≤n∧¬n≤57∧(n !=95)=false)∨(¬97≤n∧¬48≤n∧(n !=95)=true)∨(97≤n∧¬n≤122∧48≤n∧¬n≤57∧(n !=95)=true):=by
 simp only [bne_iff_ne,ne_eq,bne_eq_false_iff_eq];omega

end Pl
end
section
namespace Pl
def cutF (s:ByteArray) (b:Nat):Nat→Nat→Nat→List ByteArray
 |0,from_,_=>[s.extract from_ s.size]
 |f+1,from_,k=>if (s.data.toList.getD k 0).toNat=b then s.extract from_ k::cutF s b f (k+1) (k+1) else cutF s b f from_ (k+1)
def cut (s:ByteArray) (b:Nat):List ByteArray:=cutF s b s.size 0 0
theorem cutF_hit {s:ByteArray} {b f from_ k:Nat} (h:k<s.size) (hb:s[k].toNat=b):cutF s b (f+1) from_ k=s.extract from_ k::cutF s b f (k+1) (k+1):=by
 rw [cutF,zj6 s k h,if_pos hb]
theorem zu {s:ByteArray} {b f from_ k:Nat} (h:k<s.size) (hb:s[k].toNat≠b):cutF s b (f+1) from_ k=cutF s b f from_ (k+1):=by
 rw [cutF,zj6 s k h,if_neg hb]
def names (s:ByteArray):List ByteArray:=if s.size=0 then [] else cut s 47
def za2 (s:ByteArray):Bool:=decide (s.size≤200)&&(names s).all zb4&&decide ((names s).length≤6)
theorem zs4 {s:ByteArray} (h:200<s.size):za2 s=false:=by simp [za2];omega
theorem pathB_bad {s:ByteArray} {k:Nat} {t:ByteArray} (h:(names s)[k]? =some t) (hb:zb4 t=false):za2 s=false:=by
 have hm:t∈names s:=List.mem_of_getElem? h
 have :(names s).all zb4=false:=by
  rw [List.all_eq_false];exact ⟨t,hm,by simp [hb]⟩
 simp [za2,this]
theorem pathB_good {s:ByteArray} (h:s.size≤200) (ha:∀ (j:Nat) t,(names s)[j]? =some t→zb4 t=true):za2 s=decide ((names s).length≤6):=by
 have :(names s).all zb4=true:=by
  rw [List.all_eq_true];intro t ht;obtain ⟨j,hj⟩:=List.mem_iff_getElem?.1 ht;exact ha j t hj
 simp [za2,this,h]
theorem zw2 (s:ByteArray) (b:Nat):∀f fr k,(cutF s b f fr k).length≤f+1:=by
 intro f
 induction f with
 |zero=>intro fr k;simp [cutF]
 |succ f ih=>
  intro fr k;rw [cutF]
  split
  ·have :=ih (k+1) (k+1);simp;omega
  ·have :=ih fr (k+1);omega
theorem zp7 (s:ByteArray):(names s).length≤s.size+1:=by
 unfold names
 split
 ·simp
 ·exact zw2 s 47 s.size 0 0
theorem cutF_size (s:ByteArray) (b:Nat):∀f fr k t,t∈cutF s b f fr k→t.size≤s.size:=by
 intro f
 induction f with
 |zero=>intro fr k t ht;simp [cutF] at ht;subst ht;simp
 |succ f ih=>
  intro fr k t ht;rw [cutF] at ht
  split at ht
  ·rcases List.mem_cons.1 ht with rfl |ht
   ·simp;omega
   ·exact ih _ _ t ht
  ·exact ih _ _ t ht
theorem names_size {s:ByteArray} {k:Nat} {t:ByteArray} (h:(names s)[k]? =some t):t.size≤s.size:=by
 have hm:t∈names s:=List.mem_of_getElem? h;unfold names at hm
 split at hm
 ·simp at hm
 ·exact cutF_size s 47 _ _ _ t hm
def zc1 (s:ByteArray):Nat→Int
 |0=> -1
 |k+1=>if (s.data.toList.getD k 0).toNat=47 then (k:Int) else zc1 s k
theorem slash_hit {s:ByteArray} {k:Nat} (h:k<s.size) (hb:s[k].toNat=47):zc1 s (k+1)=(k:Int):=by
 rw [zc1,zj6 s k h,if_pos hb]
theorem zx8 {s:ByteArray} {k:Nat} (h:k<s.size) (hb:s[k].toNat≠47):zc1 s (k+1)=zc1 s k:=by
 rw [zc1,zj6 s k h,if_neg hb]
theorem slash_lt (s:ByteArray) (k:Nat): -1≤zc1 s k∧zc1 s k<(k:Int):=by
 induction k with
 |zero=>simp [zc1]
 |succ k ih=>
  rw [zc1]
  split <;> omega
def parent (s:ByteArray):ByteArray:=if zc1 s s.size<0 then ⟨#[]⟩ else s.extract 0 (zc1 s s.size).toNat
end Pl
end
section
namespace Pl
def by_ (t:ByteArray):List UInt8:=t.data.toList
theorem zh7 {a b:ByteArray} (h:by_ a=by_ b):a=b:=by
 apply ByteArray.ext;exact Array.toList_inj.1 h
theorem zf (t:ByteArray):(by_ t).length=t.size:=Array.length_toList
theorem zl8 (t:ByteArray) (a b:Nat):by_ (t.extract a b)=((by_ t).drop a).take (b - a):=by
 simp [by_,ByteArray.data_extract,Array.toList_extract,List.extract]
theorem by_mk (l:List UInt8):by_ ⟨l.toArray⟩=l:=by simp [by_]
def cutL:List UInt8→List (List UInt8)
 | []=>[[]]
 |b::l=>if b=47 then []::cutL l else match cutL l with | []=>[[b]]|h::t=>(b::h)::t
def zd8:List (List UInt8)→List UInt8
 | []=>[]
 | [a]=>a
 |a::b::r=>a++47::zd8 (b::r)
theorem cutL_ex (l:List UInt8):∃h t,cutL l=h::t:=by
 induction l with
 |nil=>exact ⟨_,_,rfl⟩
 |cons b l ih=>
  obtain ⟨h,t,e⟩:=ih;rw [cutL]
  split
  ·exact ⟨_,_,rfl⟩
  ·rw [e];exact ⟨_,_,rfl⟩
theorem cutL_ne (l:List UInt8):cutL l≠[]:=by obtain ⟨h,t,e⟩:=cutL_ex l;rw [e];exact List.cons_ne_nil _ _
theorem zp4 (l:List UInt8):cutL (47::l)=[]::cutL l:=by rw [cutL,if_pos rfl]
theorem zo1 {b:UInt8} {l h:List UInt8} {t:List (List UInt8)} (hb:b≠47) (e:cutL l=h::t):cutL (b::l)=(b::h)::t:=by
 rw [cutL,if_neg hb,e]
theorem zm0 (a:List UInt8) {L:List (List UInt8)} (h:L≠[]):zd8 (a::L)=a++47::zd8 L:=by
 cases L with
 |nil=>exact absurd rfl h
 |cons b r=>rw [zd8]
theorem glueL_push (b:UInt8) (h:List UInt8) (t:List (List UInt8)):zd8 ((b::h)::t)=b::zd8 (h::t):=by
 cases t with
 |nil=>simp [zd8]
 |cons c r=>simp [zd8]
theorem glue_cutL (l:List UInt8):zd8 (cutL l)=l:=by
 induction l with
 |nil=>rfl
 |cons b l ih=>
  by_cases hb:b=47
  ·subst hb;rw [zp4,zm0 _ (cutL_ne l),ih];rfl
  ·obtain ⟨h,t,e⟩:=cutL_ex l;rw [zo1 hb e,glueL_push,←e,ih]
theorem zw1 (a b:List UInt8):cutL (a++47::b)=cutL a++cutL b:=by
 induction a with
 |nil=>rw [List.nil_append,zp4];rfl
 |cons c a ih=>
  by_cases hc:c=47
  ·subst hc;rw [List.cons_append,zp4,ih,zp4];rfl
  ·obtain ⟨h,t,e⟩:=cutL_ex a;rw [List.cons_append,zo1 hc e,zo1 (t:=t++cutL b) hc (by rw [ih,e];rfl)];rfl
theorem zo9 {a:List UInt8} (h:(47:UInt8)∉a):cutL a=[a]:=by
 induction a with
 |nil=>rfl
 |cons c a ih=>
  rw [List.mem_cons,not_or] at h;rw [zo1 (fun e=>h.1 e.symm) (ih h.2)]
theorem cut_glueL {L:List (List UInt8)} (h0:L≠[]) (h:∀t∈L,(47:UInt8)∉t):cutL (zd8 L)=L:=by
 induction L with
 |nil=>exact absurd rfl h0
 |cons a L ih=>
  by_cases hL:L=[]
  ·subst hL;exact zo9 (h a List.mem_cons_self)
  ·rw [zm0 a hL,zw1,zo9 (h a List.mem_cons_self),ih hL (fun t ht=>h t (List.mem_cons_of_mem _ ht))];rfl
theorem zv1 {A B:List (List UInt8)} (hA:A≠[]) (hB:B≠[]):zd8 (A++B)=zd8 A++47::zd8 B:=by
 induction A with
 |nil=>exact absurd rfl hA
 |cons a A ih=>
  by_cases h:A=[]
  ·subst h;exact zm0 a hB
  ·rw [List.cons_append,zm0 a (by simp [h]),ih h,zm0 a h];simp

theorem cutF_list (s:ByteArray):∀f fr k,f+k=s.size→fr≤k→∃h t,cutL ((by_ s).drop k)=h::t∧(cutF s 47 f fr k).map by_=(((by_ s).drop fr).take (k - fr)++h)::t:=by
 intro f
 induction f with
 |zero=>
  intro fr k hk hfr;refine ⟨[],[],?_,?_⟩
  ·rw [List.drop_of_length_le (by rw [zf];omega)];rfl
  ·rw [cutF,List.map_cons,List.map_nil,zl8,List.append_nil];obtain rfl:k=s.size:=by omega
   rfl
 |succ f ih=>
  intro fr k hk hfr;have hlt:k<s.size:=by omega
  have hlt':k<(by_ s).length:=by rw [zf];exact hlt
  have hd:(by_ s).drop k=s[k]::(by_ s).drop (k+1):=by
   rw [List.drop_eq_getElem_cons hlt'];rfl
  by_cases hb:s[k].toNat=47
  ·obtain ⟨h,t,e1,e2⟩:=ih (k+1) (k+1) (by omega) (Nat.le_refl _);have hb':s[k]=47:=UInt8.toNat_inj.1 hb;refine ⟨[],cutL ((by_ s).drop (k+1)),?_,?_⟩
   ·rw [hd,hb',zp4]
   ·rw [cutF_hit hlt hb,List.map_cons,e2,zl8,e1];simp
  ·obtain ⟨h,t,e1,e2⟩:=ih fr (k+1) (by omega) (by omega);have hb':s[k]≠47:=fun e=>hb (by rw [e];rfl);refine ⟨s[k]::h,t,?_,?_⟩
   ·rw [hd,zo1 hb' e1]
   ·rw [zu hlt hb,e2]
    congr 1
    have :k+1 - fr=(k - fr)+1:=by omega
    rw [this,List.take_add_one,List.getElem?_drop,Nat.add_sub_cancel' hfr,List.getElem?_eq_getElem hlt'];simp [by_]
    rfl
theorem cut_list (s:ByteArray):(cut s 47).map by_=cutL (by_ s):=by
 obtain ⟨h,t,e1,e2⟩:=cutF_list s s.size 0 0 (by omega) (Nat.le_refl _);rw [cut,e2];rw [List.drop_zero] at e1;rw [e1];simp
def zi8 (l:List UInt8):List (List UInt8):=if l=[] then [] else cutL l
theorem zf7 {s:ByteArray}:by_ s=[]↔s.size=0:=by rw [←zf,List.length_eq_zero_iff]
theorem zh (s:ByteArray):(names s).map by_=zi8 (by_ s):=by
 unfold names zi8;by_cases h:s.size=0
 ·rw [if_pos h,if_pos (zf7.2 h)];rfl
 ·rw [if_neg h,if_neg (fun e=>h (zf7.1 e)),cut_list]
theorem zw4 (l:List UInt8):zd8 (zi8 l)=l:=by
 unfold zi8;split
 ·subst_vars;rfl
 ·exact glue_cutL l
def glue (ts:List ByteArray):ByteArray:=⟨(zd8 (ts.map by_)).toArray⟩
theorem zk3 (ts:List ByteArray):by_ (glue ts)=zd8 (ts.map by_):=by_mk _
theorem map_by_inj {A B:List ByteArray} (h:A.map by_=B.map by_):A=B:=by
 induction A generalizing B with
 |nil=>cases B with
  |nil=>rfl
  |cons=>simp at h
 |cons a A ih=>cases B with
  |nil=>simp at h
  |cons b B=>simp at h;rw [zh7 h.1,ih h.2]
theorem zl4 (s:ByteArray):glue (names s)=s:=by
 apply zh7;rw [zk3,zh,zw4]
theorem zj4 {t:ByteArray} (h:zb4 t=true):(47:UInt8)∉by_ t∧by_ t≠[]∧1≤t.size∧t.size≤20:=by
 have h':=of_decide_eq_true h;refine ⟨fun hm=>?_,fun e=>?_,h'.1,h'.2.1⟩
 ·obtain ⟨j,hj,e⟩:=List.getElem_of_mem hm;have hj':j<t.size:=by rw [←zf];exact hj
  have ho:=h'.2.2 j hj'
  have e2:t.data.toList.getD j 0=47:=by
   rw [zj6 t j hj'];exact e
  rw [e2] at ho;simp [okAt] at ho
 ·have :=zf7.1 e;omega
theorem zi4 {L:List ByteArray} (h:∀t∈L,zb4 t=true):names (glue L)=L:=by
 apply map_by_inj
 rw [zh,zk3];cases L with
 |nil=>rfl
 |cons a L=>
  have hne:zd8 ((a::L).map by_)≠[]:=by
   have ha:=(zj4 (h a List.mem_cons_self)).2.1;cases L with
   |nil=>exact ha
   |cons b L=>simp [zd8]
  rw [zi8,if_neg hne]
  apply cut_glueL (by simp)
  intro t ht;obtain ⟨u,hu,rfl⟩:=List.mem_map.1 ht;exact (zj4 (h u hu)).1
theorem glueL_le (L:List ByteArray) (h:∀t∈L,t.size≤20):(zd8 (L.map by_)).length≤21*L.length:=by
 induction L with
 |nil=>simp [zd8]
 |cons a L ih=>
  have ha:=h a List.mem_cons_self;have ih:=ih (fun t ht=>h t (List.mem_cons_of_mem _ ht));cases L with
  |nil=>simp [zd8,zf];omega
  |cons b L=>
   simp only [List.map_cons,zd8,List.length_append,List.length_cons,zf] at ih ⊢;omega
theorem zp8 (L:List ByteArray) (h:∀t∈L,t.size≤20):(glue L).size≤21*L.length:=by
 rw [←zf,zk3];exact glueL_le L h
theorem zk9 {s:ByteArray} (h:za2 s=true):(∀t∈names s,zb4 t=true)∧(names s).length≤6:=by
 simp [za2] at h
 exact ⟨h.1.2,h.2⟩
theorem pathB_glue {L:List ByteArray} (h:∀t∈L,zb4 t=true) (h6:L.length≤6):za2 (glue L)=true:=by
 have hs:=zp8 L (fun t ht=>(zj4 (h t ht)).2.2.2);simp [za2,zi4 h]
 exact ⟨⟨by omega,h⟩,h6⟩
theorem zr0 {s:ByteArray}:za2 s=((names s).all zb4&&decide ((names s).length≤6)):=by
 by_cases h:s.size≤200
 ·simp [za2,h]
 ·have h1:za2 s=false:=zs4 (by omega);rw [h1];by_cases h2:(names s).all zb4=true
  ·have h3:=List.all_eq_true.1 h2;have hs:=zp8 (names s) (fun t ht=>(zj4 (h3 t ht)).2.2.2);rw [zl4] at hs;simp;intro _;omega
  ·simp at h2;simp;intro h4;obtain ⟨x,hx,hy⟩:=h2;exact absurd (h4 x hx) (by simp [hy])
end Pl
end
section
namespace Pl
theorem by_take_succ (s:ByteArray) (k:Nat) (h:k<s.size):(by_ s).take (k+1)=(by_ s).take k++[s[k]]:=take_snoc s k h
theorem slash_split (s:ByteArray):∀k,k≤s.size→((47:UInt8)∉(by_ s).take k∧zc1 s k= -1)∨∃a b,(by_ s).take k=a++47::b∧(47:UInt8)∉b∧zc1 s k=(a.length:Int):=by
 intro k
 induction k with
 |zero=>intro _;left;simp [zc1]
 |succ k ih=>
  intro hk;have hlt:k<s.size:=by omega
  have ih:=ih (by omega);rw [by_take_succ s k hlt];by_cases hb:s[k].toNat=47
  ·right
   have hb':s[k]=47:=UInt8.toNat_inj.1 hb;refine ⟨(by_ s).take k,[],by rw [hb'],by simp,?_⟩;rw [slash_hit hlt hb,List.length_take,zf,Nat.min_eq_left (by omega)]
  ·have hb':s[k]≠47:=fun e=>hb (by rw [e];rfl);rw [zx8 hlt hb]
   rcases ih with ⟨h1,h2⟩|⟨a,b,h1,h2,h3⟩
   ·left
    refine ⟨?_,h2⟩;rw [List.mem_append,not_or];exact ⟨h1,by simpa using fun e=>hb' e.symm⟩
   ·right
    refine ⟨a,b++[s[k]],by rw [h1];simp,?_,h3⟩;rw [List.mem_append,not_or];exact ⟨h2,by simpa using fun e=>hb' e.symm⟩
theorem zv9 (s:ByteArray):((47:UInt8)∉by_ s∧zc1 s s.size= -1)∨∃a b,by_ s=a++47::b∧(47:UInt8)∉b∧zc1 s s.size=(a.length:Int):=by
 have h:=slash_split s s.size (Nat.le_refl _)
 rwa [List.take_of_length_le (by rw [zf];exact Nat.le_refl _)] at h
theorem zt6 {l a b:List UInt8} (h:l=a++47::b):zi8 l=cutL a++cutL b:=by
 subst h;rw [zi8,if_neg (by simp),zw1]
theorem zw0 {l:List UInt8} (h:(47:UInt8)∉l):zi8 l=if l=[] then [] else [l]:=by
 rw [zi8];split
 ·rfl
 ·exact zo9 h
def base (s:ByteArray):ByteArray:=s.extract (zc1 s s.size+1).toNat s.size
theorem zn4 (s:ByteArray):parent s=glue (names s).dropLast:=by
 apply zh7
 rw [zk3,List.map_dropLast,zh];unfold parent
 rcases zv9 s with ⟨h1,h2⟩|⟨a,b,h1,h2,h3⟩
 ·rw [h2,if_pos (by omega),zw0 h1]
  split <;> rfl
 ·rw [h3,if_neg (by omega),zl8,zt6 h1,zo9 h2,List.dropLast_concat,glue_cutL,h1];simp
theorem base_glue (s:ByteArray):base s=glue ((names s).drop ((names s).length - 1)):=by
 apply zh7
 have hl:(names s).length=(zi8 (by_ s)).length:=by rw [←zh,List.length_map]
 rw [zk3,List.map_drop,zh,hl];unfold base
 rcases zv9 s with ⟨h1,h2⟩|⟨a,b,h1,h2,h3⟩
 ·rw [h2,zl8,zw0 h1]
  have e:List.take (s.size - ((-1:Int)+1).toNat) (List.drop ((-1:Int)+1).toNat (by_ s))=by_ s:=by
   simp [←zf]
  rw [e]
  split
  ·next h=>rw [h];rfl
  ·rfl
 ·rw [h3,zl8,zt6 h1,zo9 h2];have h4:((a.length:Int)+1).toNat=a.length+1:=by omega
  have h5:s.size=a.length+1+b.length:=by rw [←zf,h1];simp;omega
  rw [h4,h5,h1];simp [zd8]
theorem drop_last {α:Type} (L:List α):L.take (L.length - 1)=L.dropLast:=by rw [List.dropLast_eq_take]
def rest (p t:ByteArray):ByteArray:=glue ((names p).drop (names t).length)
def ze8 (p n:ByteArray):ByteArray:=glue (names p++[n])
theorem joinN_root {p n:ByteArray} (h:by_ p=[]):ze8 p n=n:=by
 apply zh7
 rw [ze8,zk3,List.map_append,zh,h];rfl
theorem joinN_two {p n:ByteArray} (h:by_ p≠[]):by_ (ze8 p n)=by_ p++47::by_ n:=by
 rw [ze8,zk3,List.map_append,zh,zv1 (by rw [zi8,if_neg h];exact cutL_ne _) (by simp),zw4];rfl
end Pl
end
end Go.Proofs.YtpggbphcbcogdaaGreatDoor
