import Derived.Test.YthdhhcgopfgcbaaGreatDoorG22
import Derived.Test.YthdhhcgopfgcbaaGreatDoorWL07
namespace Go.Proofs.YthdhhcgopfgcbaaGreatDoor
namespace Pl
theorem okR_mem {X:Fx} (h:X.okR):∀x∈X.flat,zc9 x.2:=by
 induction X with
 |nil=>intro x hx;cases hx
 |cons L k m ih1 ih2=>
  intro x hx;rw [Fx.flat,List.mem_cons,List.mem_append] at hx
  rcases hx with rfl |hx|hx
  ·exact h.1
  ·exact ih1 h.2.2.2.1 x hx
  ·exact ih2 h.2.2.2.2 x hx
theorem nestCh_ok {XS:List (Int × List Nd)} {n:Nd} {pc:List Nd→Int} {lf:List Nd→List Nd→Int→List Nd}
  (hO:∀S L1 lev,zc9 L1→zd0 S=true→pc S=0→za7 n=true→zc9 (lf S L1 lev))
  (hW:∀S,zd0 S=true→pc S=0→za7 n=true→∀p∈zi9 n.path,∃d,lk S p=some d):
  (∀x∈(ze8 XS n pc lf).2,zc9 x.2)∧((ze8 XS n pc lf).1=0→(ze8 XS n pc lf).2.length≠0):=by
 have key:∀c:Int,c≠0→(∀x∈((c,[]):Int × List (Int × List Nd)).2,zc9 x.2)∧(((c,[]):Int × List (Int × List Nd)).1=0→((c,[]):Int × List (Int × List Nd)).2.length≠0):=fun c hc=>⟨fun x hx=>(by cases hx),fun h=>absurd h hc⟩;unfold ze8
 split
 ·split
  ·exact key 2 (by decide)
  ·cases hN:nest (rowO XS) with
   |none=>rw [zt1 hN];exact key 1 (by decide)
   |some F=>
    obtain ⟨L,K, -, -,hko,hnx⟩:=zm5 hN;rw [hnx];simp only;by_cases hnb:za7 n=true
    ·rw [if_pos hnb];by_cases hvc:zb9 XS=0
     ·rw [if_pos hvc];have hpl:=zq7 hvc;by_cases hpc:pc (zb8 XS)=0
      ·rw [if_pos hpc];have hft:=yf7 L K hko.1 hko.2.2.2.1;have hri:=zv4 (zc9.zr0 (zj0 hpl)) (zi9 n.path) (zd6 L K) (zc9.zr0 hft) (hW _ hpl hpc hnb)
       split
       ·exact key 9 (by decide)
       ·refine ⟨okR_mem (setF_okR (hO _ _ _ hri.1 hpl hpc hnb) _ (Fx.okR_of hko)),fun _=>?_⟩;rw [Fx.zw6,setF_sz,Fx.sz];omega
      ·rw [if_neg hpc];exact key _ hpc
     ·rw [if_neg hvc];exact key _ hvc
    ·rw [if_neg hnb];exact key 1 (by decide)
 ·exact key 2 (by decide)
def wrtN (XS:List (Int × List Nd)) (p d:ByteArray) (t:Int):Int × List (Int × List Nd):=ze8 XS (⟨p,2,d,t,0⟩:Nd) (fun S=>wrtC S ⟨p,2,d,t,0⟩) (fun _ L1 _=>putL L1 ⟨p,2,d,t,0⟩)
def remN (XS:List (Int × List Nd)) (p:ByteArray):Int × List (Int × List Nd):=ze8 XS (⟨p,1,⟨#[]⟩,0,0⟩:Nd) (fun S=>remC S p) (fun _ L1 lev=>remL L1 p lev)
def movN (XS:List (Int × List Nd)) (f t:ByteArray):Int × List (Int × List Nd):=
 if 8000<f.size∨8000<t.size then (2,[]) else
 if 400<XS.length then (2,[]) else
 if (nest (rowO XS)).isSome=true then
  if wayB f=true∧wayB t=true then
   if zb9 XS=0 then
    match lk (zb8 XS) f with
    |none=>(6,[])
    |some n=>if n.kind=2 then (if t=f then (7,[]) else if (wrtN XS t n.data n.time).1=0 then remN (wrtN XS t n.data n.time).2 f else wrtN XS t n.data n.time) else (11,[])
   else (zb9 XS,[])
  else (1,[])
 else (1,[])
theorem wrt_ok (XS:List (Int × List Nd)) (p d:ByteArray) (t:Int):(∀x∈(wrtN XS p d t).2,zc9 x.2)∧((wrtN XS p d t).1=0→(wrtN XS p d t).2.length≠0):=
 nestCh_ok (fun S L1 lev h1 h3 h4 h5=>h1.put (zb1 h5).1 (by have :=(zd8 h5).1;simp only at this ⊢;omega)) (fun S h1 h2 h3=>way_write (zj0 h1) h3 h2)
theorem wrt_le (XS:List (Int × List Nd)) (p d:ByteArray) (t:Int):(wrtN XS p d t).2.length≤12∧∀x∈(wrtN XS p d t).2,x.2.length≤40:=nestCh_le _ _ _ _
theorem mov_le (XS:List (Int × List Nd)) (f t:ByteArray):(movN XS f t).2.length≤12∧∀x∈(movN XS f t).2,x.2.length≤40:=by
 have key:∀c:Int,((c,[]):Int × List (Int × List Nd)).2.length≤12∧∀x∈((c,[]):Int × List (Int × List Nd)).2,x.2.length≤40:=fun c=>⟨by simp,fun x hx=>(by cases hx)⟩;unfold movN
 split
 ·exact key 2
 ·split
  ·exact key 2
  ·split
   ·split
    ·split
     ·split
      ·exact key 6
      ·split
       ·split
        ·exact key 7
        ·split
         ·exact nestCh_le _ _ _ _
         ·exact wrt_le _ _ _ _
       ·exact key 11
     ·exact key _
    ·exact key 1
   ·exact key 1
theorem zx5 {L:List Nd} (h:zc9 L):∀n∈L,n.path.size≤1048576∧n.data.size≤1048576:=fun n hn=>by
 have :=zd1 (h.path n hn).1;exact ⟨by omega,(h.path n hn).2⟩
theorem node_wayB (f:ByteArray):za7 ⟨f,2,⟨#[]⟩,0,0⟩=wayB f:=by
 unfold za7 wayB zj9;simp
 intro _ _
 decide
theorem mov_spec (XS:List (Int × List Nd)) (f t:ByteArray):movN XS f t=
  if 8000<t.size then (2,[]) else if begC XS ⟨f,2,⟨#[]⟩,0,0⟩=2 then (2,[]) else if wayB t=false then (1,[]) else if begC XS ⟨f,2,⟨#[]⟩,0,0⟩≠0 then (begC XS ⟨f,2,⟨#[]⟩,0,0⟩,[]) else
   match lk (begT XS ⟨f,2,⟨#[]⟩,0,0⟩) f with
   |none=>(6,[])
   |some n=>if n.kind=2 then (if t=f then (7,[]) else if (wrtN XS t n.data n.time).1=0 then remN (wrtN XS t n.data n.time).2 f else wrtN XS t n.data n.time) else (11,[]):=by
 unfold movN;by_cases ht:8000<t.size
 ·rw [if_pos (.inr ht),if_pos ht]
 rw [if_neg ht];by_cases hl:400<XS.length∨8000<(⟨f,2,⟨#[]⟩,0,0⟩:Nd).path.size∨8000<(⟨f,2,⟨#[]⟩,0,0⟩:Nd).data.size
 ·rw [(zw3 hl).1,if_pos rfl];by_cases hf:8000<f.size
  ·rw [if_pos (.inl hf)]
  ·rw [if_neg (by omega),if_pos]
   rcases hl with h|h|h
   ·exact h
   ·exact absurd h hf
   ·exact absurd (show 8000<(⟨#[]⟩:ByteArray).size from h) (by decide)
 have hf:¬8000<f.size:=fun h=>hl (.inr (.inl h));have h4:¬400<XS.length:=fun h=>hl (.inl h);rw [if_neg (by omega),if_neg h4];by_cases h2:(nest (rowO XS)).isSome=true∧za7 ⟨f,2,⟨#[]⟩,0,0⟩=true
 ·obtain ⟨e1,e2⟩:=beg_go hl h2;have hw:wayB f=true:=by rw [←node_wayB];exact h2.2
  have h9:zb9 XS=0∨zb9 XS=9:=by
   obtain ⟨F,hF⟩:=Option.isSome_iff_exists.1 h2.1;obtain ⟨L,K, -, -, -,hnx⟩:=zm5 hF;unfold zb9;rw [if_neg h4,hnx];simp only
   split
   ·exact .inr rfl
   ·exact .inl rfl
  have h22:¬zb9 XS=2:=by rcases h9 with h|h <;> omega
  rw [e1,e2,if_pos h2.1,if_neg h22];by_cases hwt:wayB t=true
  ·rw [if_pos ⟨hw,hwt⟩,if_neg (show ¬wayB t=false by rw [hwt];simp)]
   rcases h9 with h|h
   ·rw [if_pos h,if_neg (show ¬zb9 XS≠0 from fun h'=>h' h)]
   ·have h0:¬zb9 XS=0:=by omega
    rw [if_neg h0,if_pos h0]
  ·have hwf:wayB t=false:=by simpa using hwt
   rw [if_neg (show ¬ (wayB f=true∧wayB t=true) from fun h=>hwt h.2),if_pos hwf]
 ·have h12:¬ ((1:Int)=2):=by decide
  rw [(yb6 hl h2).1,if_neg h12]
  have key:(if wayB t=false then ((1,[]):Int × List (Int × List Nd)) else if (1:Int)≠0 then (1,[]) else match lk (begT XS ⟨f,2,⟨#[]⟩,0,0⟩) f with
   |none=>(6,[])
   |some n=>if n.kind=2 then (if t=f then (7,[]) else if (wrtN XS t n.data n.time).1=0 then remN (wrtN XS t n.data n.time).2 f else wrtN XS t n.data n.time) else (11,[]))=(1,[]):=by
   split
   ·rfl
   ·rw [if_pos (by decide)]
  rw [key];by_cases hn:(nest (rowO XS)).isSome=true
  ·rw [if_pos hn,if_neg];rintro ⟨h, -⟩;exact h2 ⟨hn,by rw [node_wayB];exact h⟩
  ·rw [if_neg hn]
end Pl
end Go.Proofs.YthdhhcgopfgcbaaGreatDoor
