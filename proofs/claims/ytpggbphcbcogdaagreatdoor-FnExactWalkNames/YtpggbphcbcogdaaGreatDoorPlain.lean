import Derived.Laws.BitsAllLaws
namespace Go.Proofs.YtpggbphcbcogdaaGreatDoor
namespace Pl

def encF:Nat→Nat→List UInt8
 |0,u=>[UInt8.ofNat u]
 |f+1,u=>if u<128 then [UInt8.ofNat u] else UInt8.ofNat (u % 128+128)::encF f (u / 128)
def enc (u:Nat):List UInt8:=encF u u
theorem encF_same (n:Nat):∀u f g,u≤n→u≤f→u≤g→encF f u=encF g u:=by
 induction n with
 |zero=>
  intro u f g hu _ _;obtain rfl:u=0:=by omega
  cases f <;> cases g <;> simp [encF]
 |succ n ih=>
  intro u f g hu hf hg;by_cases h:u<128
  ·cases f <;> cases g <;> simp [encF,h]
  ·obtain ⟨f,rfl⟩:∃f',f=f'+1:=⟨f - 1,by omega⟩;obtain ⟨g,rfl⟩:∃g',g=g'+1:=⟨g - 1,by omega⟩;rw [encF,encF,if_neg h,if_neg h,ih (u / 128) f g (by omega) (by omega) (by omega)]

theorem enc_small {u:Nat} (h:u<128):enc u=[UInt8.ofNat u]:=by
 unfold enc;cases u with
 |zero=>rfl
 |succ u=>rw [encF,if_pos h]
theorem enc_big {u:Nat} (h:128≤u):enc u=UInt8.ofNat (u % 128+128)::enc (u / 128):=by
 obtain ⟨f,hf⟩:∃f,u=f+1:=⟨u - 1,by omega⟩
 have e:encF u u=UInt8.ofNat (u % 128+128)::encF f (u / 128):=by
  rw [show encF u u=encF (f+1) u by rw [←hf],encF,if_neg (Nat.not_lt.2 h)]
 unfold enc;rw [e,encF_same f (u / 128) f (u / 128) (by omega) (by omega) (Nat.le_refl _)]

def zj3 (u:Nat):Nat→List UInt8
 |0=>[]
 |k+1=>zj3 u k++[UInt8.ofNat (u / 128 ^ k % 128+128)]
theorem zf4 (u k:Nat):(zj3 u k).length=k:=by
 induction k with
 |zero=>rfl
 |succ k ih=>simp [zj3,ih]
theorem enc_split (u k:Nat) (h:∀j,j<k→128≤u / 128 ^ j):enc u=zj3 u k++enc (u / 128 ^ k):=by
 induction k with
 |zero=>simp [zj3]
 |succ k ih=>
  rw [ih (fun j hj=>h j (by omega)),enc_big (h k (by omega)),zj3,Nat.div_div_eq_div_mul,Nat.pow_succ];simp

structure zk (u k X:Nat) (C:Array Value):Prop where
 rest:X=u / 128 ^ k
 big:∀j,j<k→128≤u / 128 ^ j
 cell:∀j,j<k→C[j]? =some (.int .u8 ((u / 128 ^ j % 128+128:Nat):Int))
theorem zk.start (u:Nat) (C:Array Value):zk u 0 u C:=⟨by simp,fun _ h=>absurd h (by omega),fun _ h=>absurd h (by omega)⟩
theorem lt_nine {u k X:Nat} (h3:X=u / 128 ^ k) (hX:128≤X) (hu:u<18446744073709551616):k<9:=by
 rcases Nat.lt_or_ge k 9 with h9|h9
 ·exact h9
 ·have h1:128 ^ 9≤128 ^ k:=Nat.pow_le_pow_right (by omega) h9;have h2:u / 128 ^ k≤u / 128 ^ 9:=Nat.div_le_div_left h1 (by decide);have h4:u / 128 ^ 9<2:=by omega
  omega
theorem zk.lt {u k X:Nat} {C:Array Value} (h:zk u k X C) (hX:128≤X) (hu:u<18446744073709551616):k<9:=lt_nine h.rest hX hu
theorem zk.step {u k X:Nat} {C:Array Value} (h:zk u k X C) (hX:128≤X) (hk:k<C.size):
  zk u (k+1) (X / 128) (C.setIfInBounds k (.int .u8 ((X % 128+128:Nat):Int))):=by
 refine ⟨?_,?_,?_⟩
 ·rw [h.rest,Nat.div_div_eq_div_mul,Nat.pow_succ]
 ·intro j hj
  rcases Nat.lt_succ_iff_lt_or_eq.1 hj with h'|rfl
  ·exact h.big j h'
  ·rw [←h.rest];exact hX
 ·intro j hj
  rcases Nat.lt_succ_iff_lt_or_eq.1 hj with h'|rfl
  ·rw [Array.getElem?_setIfInBounds_ne (by omega)];exact h.cell j h'
  ·rw [Array.getElem?_setIfInBounds_self_of_lt hk,h.rest]

theorem encTo_get (u k j:Nat) (h:j<k):(zj3 u k)[j]? =some (UInt8.ofNat (u / 128 ^ j % 128+128)):=by
 induction k with
 |zero=>omega
 |succ k ih=>
  rw [zj3]
  rcases Nat.lt_succ_iff_lt_or_eq.1 h with h'|rfl
  ·rw [List.getElem?_append_left (by rw [zf4];exact h')];exact ih h'
  ·rw [List.getElem?_append_right (by rw [zf4];exact Nat.le_refl _),zf4];simp
theorem zk.enc {u k X:Nat} {C:Array Value} (h:zk u k X C) (hX:X<128):enc u=zj3 u k++[UInt8.ofNat X]:=by
 rw [enc_split u k h.big,←h.rest,enc_small hX]
theorem zk.length {u k X:Nat} {C:Array Value} (h:zk u k X C) (hX:X<128):(Pl.enc u).length=k+1:=by
 rw [h.enc hX];simp [zf4]
theorem zk.bytes {u k X:Nat} {C:Array Value} (h:zk u k X C) (hX:X<128) (hk:k<C.size) (j:Nat) (hj:j<(Pl.enc u).length):
  (C.setIfInBounds k (.int .u8 (X:Int)))[j]? =some (.int .u8 ((Pl.enc u)[j].toNat:Int)):=by
 have hl:=h.length hX;have hg:(Pl.enc u)[j]? =some (Pl.enc u)[j]:=List.getElem?_eq_getElem hj;generalize (Pl.enc u)[j]=b at hg ⊢;rw [h.enc hX] at hg
 rcases Nat.lt_or_ge j k with hjk|hjk
 ·rw [List.getElem?_append_left (by rw [zf4];exact hjk),encTo_get u k j hjk] at hg;have hg:=(Option.some.inj hg).symm;rw [Array.getElem?_setIfInBounds_ne (by omega),h.cell j hjk];subst hg;simp [UInt8.toNat_ofNat']
  omega
 ·obtain rfl:j=k:=by omega
  rw [List.getElem?_append_right (by rw [zf4];exact Nat.le_refl _),zf4] at hg;have hg:UInt8.ofNat X=b:=by simpa using hg
  rw [Array.getElem?_setIfInBounds_self_of_lt hk];subst hg;simp [UInt8.toNat_ofNat']
  omega

def zd3 (b:UInt8):Value:= .int .u8 (b.toNat:Int)
structure zi6 (u k X:Nat):Prop where
 rest:X=u / 128 ^ k
 big:∀j,j<k→128≤u / 128 ^ j
theorem zi6.start (u:Nat):zi6 u 0 u:=⟨by simp,fun _ h=>absurd h (by omega)⟩
theorem zi6.lt {u k X:Nat} (h:zi6 u k X) (hX:128≤X) (hu:u<18446744073709551616):k<9:=lt_nine h.rest hX hu
theorem zi6.step {u k X:Nat} (h:zi6 u k X) (hX:128≤X):zi6 u (k+1) (X / 128):=by
 refine ⟨?_,?_⟩
 ·rw [h.rest,Nat.div_div_eq_div_mul,Nat.pow_succ]
 ·intro j hj
  rcases Nat.lt_succ_iff_lt_or_eq.1 hj with h'|rfl
  ·exact h.big j h'
  ·rw [←h.rest];exact hX
theorem zi6.enc {u k X:Nat} (h:zi6 u k X) (hX:X<128):Pl.enc u=zj3 u k++[UInt8.ofNat X]:=by
 rw [enc_split u k h.big,←h.rest,enc_small hX]
theorem zi6.cells {u k X:Nat} (h:zi6 u k X):(zj3 u k).map zd3++[.int .u8 ((X:Int) % 128+128)]=(zj3 u (k+1)).map zd3:=by
 rw [zj3,List.map_append,←h.rest]
 congr 1
 simp [zd3,UInt8.toNat_ofNat']
 omega
theorem zi6.last {u k X:Nat} (h:zi6 u k X) (hX:X<128):(zj3 u k).map zd3++[.int .u8 (X:Int)]=(Pl.enc u).map zd3:=by
 rw [h.enc hX,List.map_append]
 congr 1
 simp [zd3,UInt8.toNat_ofNat']
 omega
theorem zi6.length {u k X:Nat} (h:zi6 u k X) (hX:X<128):(Pl.enc u).length=k+1:=by rw [h.enc hX];simp [zf4]

def tot (ts:List ByteArray):Nat:=(ts.map ByteArray.size).sum
def cat (ts:List ByteArray):List UInt8:=(ts.map fun t=>t.data.toList).flatten
theorem zs7 (ts:List ByteArray):(cat ts).length=tot ts:=by
 induction ts with
 |nil=>rfl
 |cons t ts ih=>
  have h1:(cat (t::ts)).length=t.data.toList.length+(cat ts).length:=by simp [cat]
  have h2:tot (t::ts)=t.size+tot ts:=by simp [tot]
  rw [h1,h2,ih];rfl
theorem tot_snoc (ts:List ByteArray) (k:Nat) (t:ByteArray) (h:ts[k]? =some t):tot (ts.take (k+1))=tot (ts.take k)+t.size:=by
 rw [List.take_add_one,h];simp [tot]
theorem cat_snoc (ts:List ByteArray) (k:Nat) (t:ByteArray) (h:ts[k]? =some t):cat (ts.take (k+1))=cat (ts.take k)++t.data.toList:=by
 rw [List.take_add_one,h];simp [cat]
theorem tot_le (ts:List ByteArray) (k:Nat):tot (ts.take k)≤tot ts:=by
 have h:tot ts=tot (ts.take k)+tot (ts.drop k):=by
  have e:∀a b:List ByteArray,tot (a++b)=tot a+tot b:=fun a b=>by simp [tot]
  have :=e (ts.take k) (ts.drop k)
  rwa [List.take_append_drop] at this
 omega
theorem cat_one (a:ByteArray):cat [a]=a.data.toList:=by simp [cat]
theorem zx6 (a:List UInt8) (s:ByteArray):(⟨a.toArray⟩:ByteArray)++s=⟨(a++s.data.toList).toArray⟩:=by
 apply ByteArray.ext
 simp
theorem part_step {ts:List ByteArray} {k:Nat} {t:ByteArray} {cur:Array Value} (h:ts[k]? =some t)
  (hp:cur.toList.take (tot (ts.take k))=(cat (ts.take k)).map zd3):
  (cur.toList.take (tot (ts.take k))++t.data.toList.map zd3++cur.toList.drop (tot (ts.take k)+t.size)).toArray.toList.take (tot (ts.take (k+1)))=(cat (ts.take (k+1))).map zd3:=by
 have hl:(cat (ts.take (k+1))).length=tot (ts.take (k+1)):=zs7 _;rw [hp,←List.map_append,←cat_snoc ts k t h,List.take_append_of_le_length (by rw [List.length_map,hl];exact Nat.le_refl _),List.take_of_length_le (by rw [List.length_map,hl];exact Nat.le_refl _)]

def four (n:Nat):List UInt8:=[UInt8.ofNat n,UInt8.ofNat (n / 256),UInt8.ofNat (n / 65536),UInt8.ofNat (n / 16777216)]
theorem take_snoc (s:ByteArray) (k:Nat) (h:k<s.size):s.data.toList.take (k+1)=s.data.toList.take k++[s[k]]:=by
 rw [List.take_succ_eq_append_getElem (by simpa using h)];rfl

abbrev okAt (j n:Nat):Prop:=(97≤n∧n≤122)∨(j≠0∧((48≤n∧n≤57)∨n=95))
def zb4 (s:ByteArray):Bool:=decide (1≤s.size∧s.size≤20∧∀j,j<s.size→okAt j ((s.data.toList.getD j 0).toNat))
theorem zj6 (s:ByteArray) (k:Nat) (h:k<s.size):s.data.toList.getD k 0=s[k]:=by
 have h':k<s.data.size:=h;simp only [List.getD,Array.getElem?_toList];rw [Array.getElem?_eq_getElem h'];rfl
theorem zv8 {s:ByteArray} (h:s.size<1):zb4 s=false:=decide_eq_false (by omega)
theorem zr7 {s:ByteArray} (h:20<s.size):zb4 s=false:=decide_eq_false (by omega)
theorem zo5 {s:ByteArray} (k:Nat) (h:k<s.size) (hb:¬okAt k s[k].toNat):zb4 s=false:=
 decide_eq_false (fun ⟨_,_,ha⟩=>hb (by have :=ha k h;rwa [zj6 s k h] at this))
theorem zx3 {s:ByteArray} (h1:¬s.size<1) (h2:¬20<s.size) (h:∀j,j<s.size→okAt j ((s.data.toList.getD j 0).toNat)):zb4 s=true:=
 decide_eq_true ⟨by omega,by omega,h⟩
theorem zr2 {s:ByteArray} {k:Nat} (h:∀j,j<k→okAt j ((s.data.toList.getD j 0).toNat)) (hk:k<s.size) (ho:okAt k s[k].toNat):
  ∀j,j<k+1→okAt j ((s.data.toList.getD j 0).toNat):=by
 intro j hj
 rcases Nat.lt_succ_iff_lt_or_eq.1 hj with h'|rfl
 ·exact h j h'
 ·rw [zj6 s j hk];exact ho

theorem kinds (n:Int):(97≤n∧n≤122)∨(¬97≤n∧48≤n∧n≤57∧(n !=95)=true)∨(¬97≤n∧48≤n∧¬n≤57∧(n !=95)=true)∨
  (¬97≤n∧48≤n∧¬n≤57∧(n !=95)=false)∨(¬97≤n∧¬48≤n∧(n !=95)=true)∨(97≤n∧¬n≤122∧48≤n∧¬n≤57∧(n !=95)=true):=by
 simp only [bne_iff_ne,ne_eq,bne_eq_false_iff_eq];omega

end Pl
end Go.Proofs.YtpggbphcbcogdaaGreatDoor
