/- Several texts of one claim in one file: PlainGlue, PlainPar, PlainR, PlainLess. -/
import Derived.Test.YtpakookhgpphaaaDoorG00
import Derived.WalkKit
import Derived.Laws.IdiomStrings
namespace Go.Proofs.YtpakookhgpphaaaDoor
section
namespace Pl
def by_ (t:ByteArray):List UInt8:=t.data.toList
theorem zh4 {a b:ByteArray} (h:by_ a=by_ b):a=b:=by
 apply ByteArray.ext;exact Array.toList_inj.1 h
theorem zg6 (t:ByteArray):(by_ t).length=t.size:=Array.length_toList
theorem zv1 (t:ByteArray) (a b:Nat):by_ (t.extract a b)=((by_ t).drop a).take (b - a):=by
 simp [by_,ByteArray.data_extract,Array.toList_extract,List.extract]
theorem by_mk (l:List UInt8):by_ ⟨l.toArray⟩=l:=by simp [by_]
def cutL:List UInt8→List (List UInt8)
 | []=>[[]]
 |b::l=>if b=47 then []::cutL l else match cutL l with | []=>[[b]]|h::t=>(b::h)::t
def ze1:List (List UInt8)→List UInt8
 | []=>[]
 | [a]=>a
 |a::b::r=>a++47::ze1 (b::r)
theorem cutL_ex (l:List UInt8):∃h t,cutL l=h::t:=by
 induction l with
 |nil=>exact ⟨_,_,rfl⟩
 |cons b l ih=>
  obtain ⟨h,t,e⟩:=ih;rw [cutL]
  split
  ·exact ⟨_,_,rfl⟩
  ·rw [e];exact ⟨_,_,rfl⟩
theorem cutL_ne (l:List UInt8):cutL l≠[]:=by obtain ⟨h,t,e⟩:=cutL_ex l;rw [e];exact List.cons_ne_nil _ _
theorem zr2 (l:List UInt8):cutL (47::l)=[]::cutL l:=by rw [cutL,if_pos rfl]
theorem zp2 {b:UInt8} {l h:List UInt8} {t:List (List UInt8)} (hb:b≠47) (e:cutL l=h::t):cutL (b::l)=(b::h)::t:=by
 rw [cutL,if_neg hb,e]
theorem zm6 (a:List UInt8) {L:List (List UInt8)} (h:L≠[]):ze1 (a::L)=a++47::ze1 L:=by
 cases L with
 |nil=>exact absurd rfl h
 |cons b r=>rw [ze1]
theorem glueL_push (b:UInt8) (h:List UInt8) (t:List (List UInt8)):ze1 ((b::h)::t)=b::ze1 (h::t):=by
 cases t with
 |nil=>simp [ze1]
 |cons c r=>simp [ze1]
theorem glue_cutL (l:List UInt8):ze1 (cutL l)=l:=by
 induction l with
 |nil=>rfl
 |cons b l ih=>
  by_cases hb:b=47
  ·subst hb;rw [zr2,zm6 _ (cutL_ne l),ih];rfl
  ·obtain ⟨h,t,e⟩:=cutL_ex l;rw [zp2 hb e,glueL_push,←e,ih]
theorem zz2 (a b:List UInt8):cutL (a++47::b)=cutL a++cutL b:=by
 induction a with
 |nil=>rw [List.nil_append,zr2];rfl
 |cons c a ih=>
  by_cases hc:c=47
  ·subst hc;rw [List.cons_append,zr2,ih,zr2];rfl
  ·obtain ⟨h,t,e⟩:=cutL_ex a;rw [List.cons_append,zp2 hc e,zp2 (t:=t++cutL b) hc (by rw [ih,e];rfl)];rfl
theorem zs5 {a:List UInt8} (h:(47:UInt8)∉a):cutL a=[a]:=by
 induction a with
 |nil=>rfl
 |cons c a ih=>
  rw [List.mem_cons,not_or] at h;rw [zp2 (fun e=>h.1 e.symm) (ih h.2)]
theorem cut_glueL {L:List (List UInt8)} (h0:L≠[]) (h:∀t∈L,(47:UInt8)∉t):cutL (ze1 L)=L:=by
 induction L with
 |nil=>exact absurd rfl h0
 |cons a L ih=>
  by_cases hL:L=[]
  ·subst hL;exact zs5 (h a List.mem_cons_self)
  ·rw [zm6 a hL,zz2,zs5 (h a List.mem_cons_self),ih hL (fun t ht=>h t (List.mem_cons_of_mem _ ht))];rfl
theorem glueL_append {A B:List (List UInt8)} (hA:A≠[]) (hB:B≠[]):ze1 (A++B)=ze1 A++47::ze1 B:=by
 induction A with
 |nil=>exact absurd rfl hA
 |cons a A ih=>
  by_cases h:A=[]
  ·subst h;exact zm6 a hB
  ·rw [List.cons_append,zm6 a (by simp [h]),ih h,zm6 a h];simp

theorem cutF_list (s:ByteArray):∀f fr k,f+k=s.size→fr≤k→∃h t,cutL ((by_ s).drop k)=h::t∧(cutF s 47 f fr k).map by_=(((by_ s).drop fr).take (k - fr)++h)::t:=by
 intro f
 induction f with
 |zero=>
  intro fr k hk hfr;refine ⟨[],[],?_,?_⟩
  ·rw [List.drop_of_length_le (by rw [zg6];omega)];rfl
  ·rw [cutF,List.map_cons,List.map_nil,zv1,List.append_nil];obtain rfl:k=s.size:=by omega
   rfl
 |succ f ih=>
  intro fr k hk hfr;have hlt:k<s.size:=by omega
  have hlt':k<(by_ s).length:=by rw [zg6];exact hlt
  have hd:(by_ s).drop k=s[k]::(by_ s).drop (k+1):=by
   rw [List.drop_eq_getElem_cons hlt'];rfl
  by_cases hb:s[k].toNat=47
  ·obtain ⟨h,t,e1,e2⟩:=ih (k+1) (k+1) (by omega) (Nat.le_refl _);have hb':s[k]=47:=UInt8.toNat_inj.1 hb;refine ⟨[],cutL ((by_ s).drop (k+1)),?_,?_⟩
   ·rw [hd,hb',zr2]
   ·rw [cutF_hit hlt hb,List.map_cons,e2,zv1,e1];simp
  ·obtain ⟨h,t,e1,e2⟩:=ih fr (k+1) (by omega) (by omega);have hb':s[k]≠47:=fun e=>hb (by rw [e];rfl);refine ⟨s[k]::h,t,?_,?_⟩
   ·rw [hd,zp2 hb' e1]
   ·rw [zx1 hlt hb,e2]
    congr 1
    have :k+1 - fr=(k - fr)+1:=by omega
    rw [this,List.take_add_one,List.getElem?_drop,Nat.add_sub_cancel' hfr,List.getElem?_eq_getElem hlt'];simp [by_]
    rfl
theorem cut_list (s:ByteArray):(cut s 47).map by_=cutL (by_ s):=by
 obtain ⟨h,t,e1,e2⟩:=cutF_list s s.size 0 0 (by omega) (Nat.le_refl _);rw [cut,e2];rw [List.drop_zero] at e1;rw [e1];simp
def zl5 (l:List UInt8):List (List UInt8):=if l=[] then [] else cutL l
theorem zg0 {s:ByteArray}:by_ s=[]↔s.size=0:=by rw [←zg6,List.length_eq_zero_iff]
theorem zq3 (s:ByteArray):(names s).map by_=zl5 (by_ s):=by
 unfold names zl5;by_cases h:s.size=0
 ·rw [if_pos h,if_pos (zg0.2 h)];rfl
 ·rw [if_neg h,if_neg (fun e=>h (zg0.1 e)),cut_list]
theorem glue_namesL (l:List UInt8):ze1 (zl5 l)=l:=by
 unfold zl5;split
 ·subst_vars;rfl
 ·exact glue_cutL l
def glue (ts:List ByteArray):ByteArray:=⟨(ze1 (ts.map by_)).toArray⟩
theorem zt5 (ts:List ByteArray):by_ (glue ts)=ze1 (ts.map by_):=by_mk _
theorem map_by_inj {A B:List ByteArray} (h:A.map by_=B.map by_):A=B:=by
 induction A generalizing B with
 |nil=>cases B with
  |nil=>rfl
  |cons=>simp at h
 |cons a A ih=>cases B with
  |nil=>simp at h
  |cons b B=>simp at h;rw [zh4 h.1,ih h.2]
theorem yb4 (s:ByteArray):glue (names s)=s:=by
 apply zh4;rw [zt5,zq3,glue_namesL]
theorem zp6 {t:ByteArray} (h:zc8 t=true):(47:UInt8)∉by_ t∧by_ t≠[]∧1≤t.size∧t.size≤20:=by
 have h':=of_decide_eq_true h;refine ⟨fun hm=>?_,fun e=>?_,h'.1,h'.2.1⟩
 ·obtain ⟨j,hj,e⟩:=List.getElem_of_mem hm;have hj':j<t.size:=by rw [←zg6];exact hj
  have ho:=h'.2.2 j hj'
  have e2:t.data.toList.getD j 0=47:=by
   rw [zk6 t j hj'];exact e
  rw [e2] at ho;simp [okAt] at ho
 ·have :=zg0.1 e;omega
theorem names_glue {L:List ByteArray} (h:∀t∈L,zc8 t=true):names (glue L)=L:=by
 apply map_by_inj
 rw [zq3,zt5];cases L with
 |nil=>rfl
 |cons a L=>
  have hne:ze1 ((a::L).map by_)≠[]:=by
   have ha:=(zp6 (h a List.mem_cons_self)).2.1;cases L with
   |nil=>exact ha
   |cons b L=>simp [ze1]
  rw [zl5,if_neg hne]
  apply cut_glueL (by simp)
  intro t ht;obtain ⟨u,hu,rfl⟩:=List.mem_map.1 ht;exact (zp6 (h u hu)).1
theorem glueL_le (L:List ByteArray) (h:∀t∈L,t.size≤20):(ze1 (L.map by_)).length≤21*L.length:=by
 induction L with
 |nil=>simp [ze1]
 |cons a L ih=>
  have ha:=h a List.mem_cons_self;have ih:=ih (fun t ht=>h t (List.mem_cons_of_mem _ ht));cases L with
  |nil=>simp [ze1,zg6];omega
  |cons b L=>
   simp only [List.map_cons,ze1,List.length_append,List.length_cons,zg6] at ih ⊢;omega
theorem zy2 (L:List ByteArray) (h:∀t∈L,t.size≤20):(glue L).size≤21*L.length:=by
 rw [←zg6,zt5];exact glueL_le L h
theorem pathB_all {s:ByteArray} (h:za2 s=true):(∀t∈names s,zc8 t=true)∧(names s).length≤6:=by
 simp [za2] at h
 exact ⟨h.1.2,h.2⟩
theorem pathB_glue {L:List ByteArray} (h:∀t∈L,zc8 t=true) (h6:L.length≤6):za2 (glue L)=true:=by
 have hs:=zy2 L (fun t ht=>(zp6 (h t ht)).2.2.2);simp [za2,names_glue h]
 exact ⟨⟨by omega,h⟩,h6⟩
theorem zs9 {s:ByteArray}:za2 s=((names s).all zc8&&decide ((names s).length≤6)):=by
 by_cases h:s.size≤200
 ·simp [za2,h]
 ·have h1:za2 s=false:=zv7 (by omega);rw [h1];by_cases h2:(names s).all zc8=true
  ·have h3:=List.all_eq_true.1 h2;have hs:=zy2 (names s) (fun t ht=>(zp6 (h3 t ht)).2.2.2);rw [yb4] at hs;simp;intro _;omega
  ·simp at h2;simp;intro h4;obtain ⟨x,hx,hy⟩:=h2;exact absurd (h4 x hx) (by simp [hy])
end Pl
end
section
namespace Pl
theorem by_take_succ (s:ByteArray) (k:Nat) (h:k<s.size):(by_ s).take (k+1)=(by_ s).take k++[s[k]]:=take_snoc s k h
theorem slash_split (s:ByteArray):∀k,k≤s.size→((47:UInt8)∉(by_ s).take k∧zd0 s k= -1)∨∃a b,(by_ s).take k=a++47::b∧(47:UInt8)∉b∧zd0 s k=(a.length:Int):=by
 intro k
 induction k with
 |zero=>intro _;left;simp [zd0]
 |succ k ih=>
  intro hk;have hlt:k<s.size:=by omega
  have ih:=ih (by omega);rw [by_take_succ s k hlt];by_cases hb:s[k].toNat=47
  ·right
   have hb':s[k]=47:=UInt8.toNat_inj.1 hb;refine ⟨(by_ s).take k,[],by rw [hb'],by simp,?_⟩;rw [slash_hit hlt hb,List.length_take,zg6,Nat.min_eq_left (by omega)]
  ·have hb':s[k]≠47:=fun e=>hb (by rw [e];rfl);rw [yb6 hlt hb]
   rcases ih with ⟨h1,h2⟩|⟨a,b,h1,h2,h3⟩
   ·left
    refine ⟨?_,h2⟩;rw [List.mem_append,not_or];exact ⟨h1,by simpa using fun e=>hb' e.symm⟩
   ·right
    refine ⟨a,b++[s[k]],by rw [h1];simp,?_,h3⟩;rw [List.mem_append,not_or];exact ⟨h2,by simpa using fun e=>hb' e.symm⟩
theorem slash_parts (s:ByteArray):((47:UInt8)∉by_ s∧zd0 s s.size= -1)∨∃a b,by_ s=a++47::b∧(47:UInt8)∉b∧zd0 s s.size=(a.length:Int):=by
 have h:=slash_split s s.size (Nat.le_refl _)
 rwa [List.take_of_length_le (by rw [zg6];exact Nat.le_refl _)] at h
theorem namesL_split {l a b:List UInt8} (h:l=a++47::b):zl5 l=cutL a++cutL b:=by
 subst h;rw [zl5,if_neg (by simp),zz2]
theorem namesL_free {l:List UInt8} (h:(47:UInt8)∉l):zl5 l=if l=[] then [] else [l]:=by
 rw [zl5];split
 ·rfl
 ·exact zs5 h
theorem parent_glue (s:ByteArray):parent s=glue (names s).dropLast:=by
 apply zh4
 rw [zt5,List.map_dropLast,zq3];unfold parent
 rcases slash_parts s with ⟨h1,h2⟩|⟨a,b,h1,h2,h3⟩
 ·rw [h2,if_pos (by omega),namesL_free h1]
  split <;> rfl
 ·rw [h3,if_neg (by omega),zv1,namesL_split h1,zs5 h2,List.dropLast_concat,glue_cutL,h1];simp
theorem drop_last {α:Type} (L:List α):L.take (L.length - 1)=L.dropLast:=by rw [List.dropLast_eq_take]
def rest (p t:ByteArray):ByteArray:=glue ((names p).drop (names t).length)
def joinN (p n:ByteArray):ByteArray:=glue (names p++[n])
theorem joinN_root {p n:ByteArray} (h:by_ p=[]):joinN p n=n:=by
 apply zh4
 rw [joinN,zt5,List.map_append,zq3,h];rfl
theorem joinN_two {p n:ByteArray} (h:by_ p≠[]):by_ (joinN p n)=by_ p++47::by_ n:=by
 rw [joinN,zt5,List.map_append,zq3,glueL_append (by rw [zl5,if_neg h];exact cutL_ne _) (by simp),glue_namesL];rfl
end Pl
end
section
namespace Pl
def zb7 (s:ByteArray):List ByteArray:=if za2 s then names s else []
theorem zs6 {s:ByteArray} (h:za2 s=false):zb7 s=[]:=by rw [zb7,h];rfl
theorem zh5 {s:ByteArray} (h:za2 s=true):zb7 s=names s:=by rw [zb7,h];rfl
theorem cut_pos (s:ByteArray):0<(cut s 47).length:=by
 have h:=cut_list s;have :(cut s 47).length=(cutL (by_ s)).length:=by rw [←h,List.length_map]
 rw [this];exact List.length_pos_iff.2 (cutL_ne _)
theorem zg4 {s:ByteArray} (h:s.size=0):za2 s=true∧names s=[]:=by
 have h1:names s=[]:=if_pos h;exact ⟨by simp [zs9,h1],h1⟩
theorem cut_length (s:ByteArray):(cut s 47).length≤s.size+1:=zy5 s 47 s.size 0 0
theorem cut_size {s:ByteArray} {k:Nat} {t:ByteArray} (h:(cut s 47)[k]? =some t):t.size≤s.size:=cutF_size s 47 _ _ _ t (List.mem_of_getElem? h)
theorem zq (s:ByteArray):(∀t∈zb7 s,zc8 t=true)∧(zb7 s).length≤6:=by
 cases h:za2 s
 ·rw [zs6 h];simp
 ·rw [zh5 h];exact pathB_all h
theorem glue_small {L:List ByteArray} (h:∀t∈L,zc8 t=true) (h6:L.length≤20):(glue L).size≤1000000:=by
 have :=zy2 L (fun t ht=>(zp6 (h t ht)).2.2.2);omega
theorem all_take {L:List ByteArray} (h:∀t∈L,zc8 t=true) (k:Nat):∀t∈L.take k,zc8 t=true:=fun t ht=>h t (List.mem_of_mem_take ht)
theorem zw0 {a b:ByteArray} (h:a=b):(a.toList==b.toList)=true:=by rw [h];exact beq_self_eq_true _
theorem zr4 {a b:ByteArray} (h:a≠b):(a.toList==b.toList)=false:=by
 rw [beq_eq_false_iff_ne,ByteArray.toList_eq,ByteArray.toList_eq];exact fun e=>h (zh4 e)
theorem zd2 {t:ByteArray}:t.toList.isEmpty=decide (by_ t=[]):=by
 rw [ByteArray.toList_eq];change (by_ t).isEmpty=_;cases by_ t <;> simp
end Pl
end
section
namespace Pl
def za3:List ByteArray→List ByteArray→Bool
 | [],[]=>false
 | [],_::_=>true
 |_::_,[]=>false
 |a::A,b::B=>if a=b then za3 A B else Op.bytesLess a.toList b.toList
theorem less_same {A B:List ByteArray} {k:Nat} {a b:ByteArray} (ha:A[k]? =some a) (hb:B[k]? =some b) (h:a=b):za3 (A.drop k) (B.drop k)=za3 (A.drop (k+1)) (B.drop (k+1)):=by
 have h1:=(List.getElem?_eq_some_iff.1 ha);have h2:=(List.getElem?_eq_some_iff.1 hb);rw [List.drop_eq_getElem_cons h1.1,List.drop_eq_getElem_cons h2.1,za3,if_pos (by rw [h1.2,h2.2];exact h)]
theorem ya5 {A B:List ByteArray} {k:Nat} {a b:ByteArray} (ha:A[k]? =some a) (hb:B[k]? =some b) (h:a≠b):za3 (A.drop k) (B.drop k)=Op.bytesLess a.toList b.toList:=by
 have h1:=(List.getElem?_eq_some_iff.1 ha);have h2:=(List.getElem?_eq_some_iff.1 hb);rw [List.drop_eq_getElem_cons h1.1,List.drop_eq_getElem_cons h2.1,za3,if_neg (by rw [h1.2,h2.2];exact h),h1.2,h2.2]
theorem less_end {A B:List ByteArray} {k:Nat} (h:k=A.length∧k≤B.length∨k=B.length∧k≤A.length):za3 (A.drop k) (B.drop k)=decide (A.length<B.length):=by
 rcases h with ⟨rfl,h⟩|⟨rfl,h⟩
 ·rw [List.drop_length];by_cases hl:A.length<B.length
  ·rw [List.drop_eq_getElem_cons hl];simp [za3,hl]
  ·rw [List.drop_of_length_le (by omega)];simp [za3,hl]
 ·rw [List.drop_length];have hn:¬A.length<B.length:=by omega
  by_cases hl:B.length<A.length
  ·rw [List.drop_eq_getElem_cons hl];simp [za3,hn]
  ·rw [List.drop_of_length_le (by omega)];simp [za3,hn]
end Pl
end
end Go.Proofs.YtpakookhgpphaaaDoor
