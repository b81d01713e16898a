import Derived.Test.YtpggbphcbcogdaaGreatDoorPlainPath
namespace Go.Proofs.YtpggbphcbcogdaaGreatDoor
namespace Pl
def by_ (t:ByteArray):List UInt8:=t.data.toList
theorem zh7 {a b:ByteArray} (h:by_ a=by_ b):a=b:=by
 apply ByteArray.ext;exact Array.toList_inj.1 h
theorem zf (t:ByteArray):(by_ t).length=t.size:=Array.length_toList
theorem zl8 (t:ByteArray) (a b:Nat):by_ (t.extract a b)=((by_ t).drop a).take (b - a):=by
 simp [by_,ByteArray.data_extract,Array.toList_extract,List.extract]
theorem by_mk (l:List UInt8):by_ ⟨l.toArray⟩=l:=by simp [by_]
def cutL:List UInt8→List (List UInt8)
 | []=>[[]]
 |b::l=>if b=47 then []::cutL l else match cutL l with | []=>[[b]]|h::t=>(b::h)::t
def zd8:List (List UInt8)→List UInt8
 | []=>[]
 | [a]=>a
 |a::b::r=>a++47::zd8 (b::r)
theorem cutL_ex (l:List UInt8):∃h t,cutL l=h::t:=by
 induction l with
 |nil=>exact ⟨_,_,rfl⟩
 |cons b l ih=>
  obtain ⟨h,t,e⟩:=ih;rw [cutL]
  split
  ·exact ⟨_,_,rfl⟩
  ·rw [e];exact ⟨_,_,rfl⟩
theorem cutL_ne (l:List UInt8):cutL l≠[]:=by obtain ⟨h,t,e⟩:=cutL_ex l;rw [e];exact List.cons_ne_nil _ _
theorem zp4 (l:List UInt8):cutL (47::l)=[]::cutL l:=by rw [cutL,if_pos rfl]
theorem zo1 {b:UInt8} {l h:List UInt8} {t:List (List UInt8)} (hb:b≠47) (e:cutL l=h::t):cutL (b::l)=(b::h)::t:=by
 rw [cutL,if_neg hb,e]
theorem zm0 (a:List UInt8) {L:List (List UInt8)} (h:L≠[]):zd8 (a::L)=a++47::zd8 L:=by
 cases L with
 |nil=>exact absurd rfl h
 |cons b r=>rw [zd8]
theorem glueL_push (b:UInt8) (h:List UInt8) (t:List (List UInt8)):zd8 ((b::h)::t)=b::zd8 (h::t):=by
 cases t with
 |nil=>simp [zd8]
 |cons c r=>simp [zd8]
theorem glue_cutL (l:List UInt8):zd8 (cutL l)=l:=by
 induction l with
 |nil=>rfl
 |cons b l ih=>
  by_cases hb:b=47
  ·subst hb;rw [zp4,zm0 _ (cutL_ne l),ih];rfl
  ·obtain ⟨h,t,e⟩:=cutL_ex l;rw [zo1 hb e,glueL_push,←e,ih]
theorem zw1 (a b:List UInt8):cutL (a++47::b)=cutL a++cutL b:=by
 induction a with
 |nil=>rw [List.nil_append,zp4];rfl
 |cons c a ih=>
  by_cases hc:c=47
  ·subst hc;rw [List.cons_append,zp4,ih,zp4];rfl
  ·obtain ⟨h,t,e⟩:=cutL_ex a;rw [List.cons_append,zo1 hc e,zo1 (t:=t++cutL b) hc (by rw [ih,e];rfl)];rfl
theorem zo9 {a:List UInt8} (h:(47:UInt8)∉a):cutL a=[a]:=by
 induction a with
 |nil=>rfl
 |cons c a ih=>
  rw [List.mem_cons,not_or] at h;rw [zo1 (fun e=>h.1 e.symm) (ih h.2)]
theorem cut_glueL {L:List (List UInt8)} (h0:L≠[]) (h:∀t∈L,(47:UInt8)∉t):cutL (zd8 L)=L:=by
 induction L with
 |nil=>exact absurd rfl h0
 |cons a L ih=>
  by_cases hL:L=[]
  ·subst hL;exact zo9 (h a List.mem_cons_self)
  ·rw [zm0 a hL,zw1,zo9 (h a List.mem_cons_self),ih hL (fun t ht=>h t (List.mem_cons_of_mem _ ht))];rfl
theorem zv1 {A B:List (List UInt8)} (hA:A≠[]) (hB:B≠[]):zd8 (A++B)=zd8 A++47::zd8 B:=by
 induction A with
 |nil=>exact absurd rfl hA
 |cons a A ih=>
  by_cases h:A=[]
  ·subst h;exact zm0 a hB
  ·rw [List.cons_append,zm0 a (by simp [h]),ih h,zm0 a h];simp

theorem cutF_list (s:ByteArray):∀f fr k,f+k=s.size→fr≤k→∃h t,cutL ((by_ s).drop k)=h::t∧(cutF s 47 f fr k).map by_=(((by_ s).drop fr).take (k - fr)++h)::t:=by
 intro f
 induction f with
 |zero=>
  intro fr k hk hfr;refine ⟨[],[],?_,?_⟩
  ·rw [List.drop_of_length_le (by rw [zf];omega)];rfl
  ·rw [cutF,List.map_cons,List.map_nil,zl8,List.append_nil];obtain rfl:k=s.size:=by omega
   rfl
 |succ f ih=>
  intro fr k hk hfr;have hlt:k<s.size:=by omega
  have hlt':k<(by_ s).length:=by rw [zf];exact hlt
  have hd:(by_ s).drop k=s[k]::(by_ s).drop (k+1):=by
   rw [List.drop_eq_getElem_cons hlt'];rfl
  by_cases hb:s[k].toNat=47
  ·obtain ⟨h,t,e1,e2⟩:=ih (k+1) (k+1) (by omega) (Nat.le_refl _);have hb':s[k]=47:=UInt8.toNat_inj.1 hb;refine ⟨[],cutL ((by_ s).drop (k+1)),?_,?_⟩
   ·rw [hd,hb',zp4]
   ·rw [cutF_hit hlt hb,List.map_cons,e2,zl8,e1];simp
  ·obtain ⟨h,t,e1,e2⟩:=ih fr (k+1) (by omega) (by omega);have hb':s[k]≠47:=fun e=>hb (by rw [e];rfl);refine ⟨s[k]::h,t,?_,?_⟩
   ·rw [hd,zo1 hb' e1]
   ·rw [zu hlt hb,e2]
    congr 1
    have :k+1 - fr=(k - fr)+1:=by omega
    rw [this,List.take_add_one,List.getElem?_drop,Nat.add_sub_cancel' hfr,List.getElem?_eq_getElem hlt'];simp [by_]
    rfl
theorem cut_list (s:ByteArray):(cut s 47).map by_=cutL (by_ s):=by
 obtain ⟨h,t,e1,e2⟩:=cutF_list s s.size 0 0 (by omega) (Nat.le_refl _);rw [cut,e2];rw [List.drop_zero] at e1;rw [e1];simp
def zi8 (l:List UInt8):List (List UInt8):=if l=[] then [] else cutL l
theorem zf7 {s:ByteArray}:by_ s=[]↔s.size=0:=by rw [←zf,List.length_eq_zero_iff]
theorem zh (s:ByteArray):(names s).map by_=zi8 (by_ s):=by
 unfold names zi8;by_cases h:s.size=0
 ·rw [if_pos h,if_pos (zf7.2 h)];rfl
 ·rw [if_neg h,if_neg (fun e=>h (zf7.1 e)),cut_list]
theorem zw4 (l:List UInt8):zd8 (zi8 l)=l:=by
 unfold zi8;split
 ·subst_vars;rfl
 ·exact glue_cutL l
def glue (ts:List ByteArray):ByteArray:=⟨(zd8 (ts.map by_)).toArray⟩
theorem zk3 (ts:List ByteArray):by_ (glue ts)=zd8 (ts.map by_):=by_mk _
theorem map_by_inj {A B:List ByteArray} (h:A.map by_=B.map by_):A=B:=by
 induction A generalizing B with
 |nil=>cases B with
  |nil=>rfl
  |cons=>simp at h
 |cons a A ih=>cases B with
  |nil=>simp at h
  |cons b B=>simp at h;rw [zh7 h.1,ih h.2]
theorem zl4 (s:ByteArray):glue (names s)=s:=by
 apply zh7;rw [zk3,zh,zw4]
theorem zj4 {t:ByteArray} (h:zb4 t=true):(47:UInt8)∉by_ t∧by_ t≠[]∧1≤t.size∧t.size≤20:=by
 have h':=of_decide_eq_true h;refine ⟨fun hm=>?_,fun e=>?_,h'.1,h'.2.1⟩
 ·obtain ⟨j,hj,e⟩:=List.getElem_of_mem hm;have hj':j<t.size:=by rw [←zf];exact hj
  have ho:=h'.2.2 j hj'
  have e2:t.data.toList.getD j 0=47:=by
   rw [zj6 t j hj'];exact e
  rw [e2] at ho;simp [okAt] at ho
 ·have :=zf7.1 e;omega
theorem zi4 {L:List ByteArray} (h:∀t∈L,zb4 t=true):names (glue L)=L:=by
 apply map_by_inj
 rw [zh,zk3];cases L with
 |nil=>rfl
 |cons a L=>
  have hne:zd8 ((a::L).map by_)≠[]:=by
   have ha:=(zj4 (h a List.mem_cons_self)).2.1;cases L with
   |nil=>exact ha
   |cons b L=>simp [zd8]
  rw [zi8,if_neg hne]
  apply cut_glueL (by simp)
  intro t ht;obtain ⟨u,hu,rfl⟩:=List.mem_map.1 ht;exact (zj4 (h u hu)).1
theorem glueL_le (L:List ByteArray) (h:∀t∈L,t.size≤20):(zd8 (L.map by_)).length≤21*L.length:=by
 induction L with
 |nil=>simp [zd8]
 |cons a L ih=>
  have ha:=h a List.mem_cons_self;have ih:=ih (fun t ht=>h t (List.mem_cons_of_mem _ ht));cases L with
  |nil=>simp [zd8,zf];omega
  |cons b L=>
   simp only [List.map_cons,zd8,List.length_append,List.length_cons,zf] at ih ⊢;omega
theorem zp8 (L:List ByteArray) (h:∀t∈L,t.size≤20):(glue L).size≤21*L.length:=by
 rw [←zf,zk3];exact glueL_le L h
theorem zk9 {s:ByteArray} (h:za2 s=true):(∀t∈names s,zb4 t=true)∧(names s).length≤6:=by
 simp [za2] at h
 exact ⟨h.1.2,h.2⟩
theorem pathB_glue {L:List ByteArray} (h:∀t∈L,zb4 t=true) (h6:L.length≤6):za2 (glue L)=true:=by
 have hs:=zp8 L (fun t ht=>(zj4 (h t ht)).2.2.2);simp [za2,zi4 h]
 exact ⟨⟨by omega,h⟩,h6⟩
theorem zr0 {s:ByteArray}:za2 s=((names s).all zb4&&decide ((names s).length≤6)):=by
 by_cases h:s.size≤200
 ·simp [za2,h]
 ·have h1:za2 s=false:=zs4 (by omega);rw [h1];by_cases h2:(names s).all zb4=true
  ·have h3:=List.all_eq_true.1 h2;have hs:=zp8 (names s) (fun t ht=>(zj4 (h3 t ht)).2.2.2);rw [zl4] at hs;simp;intro _;omega
  ·simp at h2;simp;intro h4;obtain ⟨x,hx,hy⟩:=h2;exact absurd (h4 x hx) (by simp [hy])
end Pl
end Go.Proofs.YtpggbphcbcogdaaGreatDoor
