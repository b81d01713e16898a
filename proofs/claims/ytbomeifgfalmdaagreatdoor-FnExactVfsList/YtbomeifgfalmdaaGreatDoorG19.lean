/- Several texts of one claim in one file: PlainWn, PlainVfsL. -/
import Derived.Test.YtbomeifgfalmdaaGreatDoorG17
import Derived.Test.YtbomeifgfalmdaaGreatDoorG18
import Derived.Test.YtbomeifgfalmdaaGreatDoorPlainLead
namespace Go.Proofs.YtbomeifgfalmdaaGreatDoor
section
namespace Pl
def seeK (XS:List (Int × List Nd)) (q:ByteArray):Option Nd:=match nestX XS with
 |none=>none
 |some x=>zc9 x.1 x.2 q
def zj5 (XS:List (Int × List Nd)) (q t:ByteArray):Bool:=(seeK XS (zh5 q t)).isSome
def insF (f:ByteArray→Bool) (out K:List ByteArray):List ByteArray:=K.foldl (fun o t=>if f t=true then insN t o else o) out
def wnC (XS:List (Int × List Nd)) (q:ByteArray) (Ys:List (Int × List Nd)):List ByteArray:=Ys.foldl (fun o x=>insF (zj5 XS q) o (zb2 q x.2)) []
def dirK (o:Option Nd):Bool:=match o with
 |none=>false
 |some n=>decide (n.kind=1)
def wnB (XS:List (Int × List Nd)) (q:ByteArray):Bool:=decide (XS.length≤400)&&decide (q.size≤8000)&&(nest (rowO XS)).isSome&&za0 q&&(decide (q.size=0)||dirK (seeK XS q))&&decide ((names q).length<6)
def wnO (XS:List (Int × List Nd)) (q:ByteArray):List ByteArray:=if wnB XS q=true then wnC XS q XS else []
theorem insF_step {f:ByteArray→Bool} {out K:List ByteArray} {i:Nat} {t:ByteArray} (h:K[i]? =some t):insF f out (K.take (i+1))=if f t=true then insN t (insF f out (K.take i)) else insF f out (K.take i):=by
 have h1:=List.getElem?_eq_some_iff.1 h;rw [List.take_succ_eq_append_getElem h1.1,h1.2,insF,List.foldl_append];rfl
theorem wnC_step {XS Ys:List (Int × List Nd)} {q:ByteArray} {j:Nat} {x:Int × List Nd} (h:Ys[j]? =some x):wnC XS q (Ys.take (j+1))=insF (zj5 XS q) (wnC XS q (Ys.take j)) (zb2 q x.2):=by
 have h1:=List.getElem?_eq_some_iff.1 h;rw [List.take_succ_eq_append_getElem h1.1,h1.2,wnC,List.foldl_append];rfl
theorem insF_eq (f:ByteArray→Bool):∀ (K out:List ByteArray),insF f out K=insAll out (K.filter f):=by
 intro K
 induction K with
 |nil=>intro out;rfl
 |cons t K ih=>
  intro out;show insF f (if f t=true then insN t out else out) K=_;rw [ih,List.filter_cons];by_cases h:f t=true
  ·rw [if_pos h,if_pos h];rfl
  ·rw [if_neg h,if_neg h]
theorem wnC_ok (XS:List (Int × List Nd)) (q:ByteArray) (Ys:List (Int × List Nd)):Rise (wnC XS q Ys)∧∀t,t∈wnC XS q Ys↔(∃x∈Ys,t∈zb2 q x.2)∧zj5 XS q t=true:=by
 have key:∀ (Ys:List (Int × List Nd)) (out:List ByteArray),Rise out→Rise (Ys.foldl (fun o x=>insF (zj5 XS q) o (zb2 q x.2)) out)∧∀t,t∈Ys.foldl (fun o x=>insF (zj5 XS q) o (zb2 q x.2)) out↔t∈out∨((∃x∈Ys,t∈zb2 q x.2)∧zj5 XS q t=true):=by
  intro Ys
  induction Ys with
  |nil=>intro out h;exact ⟨h,fun t=>by simp⟩
  |cons y Ys ih=>
   intro out h;obtain ⟨h1,h2⟩:=insAll_ok ((zb2 q y.2).filter (zj5 XS q)) out h;rw [←insF_eq] at h1;obtain ⟨h3,h4⟩:=ih _ h1;refine ⟨h3,fun t=>?_⟩;rw [List.foldl_cons,h4,insF_eq,h2,List.mem_filter]
   constructor
   ·rintro ((h|⟨h,hf⟩)|⟨⟨x,hx,ht⟩,hf⟩)
    ·exact .inl h
    ·exact .inr ⟨⟨y,List.mem_cons_self,h⟩,hf⟩
    ·exact .inr ⟨⟨x,List.mem_cons_of_mem _ hx,ht⟩,hf⟩
   ·rintro (h|⟨⟨x,hx,ht⟩,hf⟩)
    ·exact .inl (.inl h)
    ·rcases List.mem_cons.1 hx with e|e
     ·subst e;exact .inl (.inr ⟨ht,hf⟩)
     ·exact .inr ⟨⟨x,e,ht⟩,hf⟩
 obtain ⟨h1,h2⟩:=key Ys [] List.Pairwise.nil;exact ⟨h1,fun t=>by show t∈Ys.foldl _ []↔_;rw [h2];simp⟩
theorem rise_ext:∀ {a b:List ByteArray},Rise a→Rise b→(∀x,x∈a↔x∈b)→a=b:=by
 intro a
 induction a with
 |nil=>
  intro b _ _ h;cases b with
  |nil=>rfl
  |cons y b=>exact absurd ((h y).2 List.mem_cons_self) (by simp)
 |cons x a ih=>
  intro b ha hb h;cases b with
  |nil=>exact absurd ((h x).1 List.mem_cons_self) (by simp)
  |cons y b=>
   have ha':=List.pairwise_cons.1 ha;have hb':=List.pairwise_cons.1 hb
   have e:x=y:=by
    rcases List.mem_cons.1 ((h x).1 List.mem_cons_self) with e|e
    ·exact e
    ·rcases List.mem_cons.1 ((h y).2 List.mem_cons_self) with e2|e2
     ·exact e2.symm
     ·have h1:=yh3 (ha'.1 y e2) (hb'.1 x e);rw [ye0] at h1;cases h1
   subst e;rw [ih ha'.2 hb'.2 (fun z=>?_)]
   constructor
   ·intro hz
    rcases List.mem_cons.1 ((h z).1 (List.mem_cons_of_mem _ hz)) with e2|e2
    ·subst e2;have h1:=ha'.1 z hz;rw [ye0] at h1;cases h1
    ·exact e2
   ·intro hz
    rcases List.mem_cons.1 ((h z).2 (List.mem_cons_of_mem _ hz)) with e2|e2
    ·subst e2;have h1:=hb'.1 z hz;rw [ye0] at h1;cases h1
    ·exact e2
theorem rise_filter {a:List ByteArray} (h:Rise a) (f:ByteArray→Bool):Rise (a.filter f):=h.sublist List.filter_sublist
theorem yd9 (q t:ByteArray) (X:Fx):X.okX→((∃x∈X.flat,t∈zb2 q x.2)↔∃L∈za8 X,t∈zb2 q L):=by
 induction X with
 |nil=>intro _;simp [Fx.flat,za8]
 |cons L k m ih1 ih2=>
  intro h;have h1:=ih1 h.2.2.2.1;have h2:=ih2 h.2.2.2.2;rw [Fx.flat,za8];by_cases hk:k.len=0
  ·have e:=Fx.zt6 hk;subst e;rw [if_pos hk];simp only [Fx.flat,List.nil_append,List.mem_cons,List.mem_append,List.not_mem_nil,or_false]
   constructor
   ·rintro ⟨x,rfl |hx,ht⟩
    ·exact ⟨L, .inl rfl,ht⟩
    ·obtain ⟨M,hM,hm⟩:=h2.1 ⟨x,hx,ht⟩;exact ⟨M, .inr hM,hm⟩
   ·rintro ⟨M,rfl |hM,hm⟩
    ·exact ⟨_, .inl rfl,hm⟩
    ·obtain ⟨x,hx,ht⟩:=h2.2 ⟨M,hM,hm⟩;exact ⟨x, .inr hx,ht⟩
  ·rw [if_neg hk]
   have hL:L=[]:=by
    rcases h.2.1 with e|e
    ·exact absurd (by rw [e];rfl) hk
    ·exact e
   subst hL;simp only [List.mem_cons,List.mem_append]
   constructor
   ·rintro ⟨x,rfl |hx|hx,ht⟩
    ·exact absurd ht (by simp [zb2])
    ·obtain ⟨M,hM,hm⟩:=h1.1 ⟨x,hx,ht⟩;exact ⟨M, .inl hM,hm⟩
    ·obtain ⟨M,hM,hm⟩:=h2.1 ⟨x,hx,ht⟩;exact ⟨M, .inr hM,hm⟩
   ·rintro ⟨M,hM|hM,hm⟩
    ·obtain ⟨x,hx,ht⟩:=h1.2 ⟨M,hM,hm⟩;exact ⟨x, .inr (.inl hx),ht⟩
    ·obtain ⟨x,hx,ht⟩:=h2.2 ⟨M,hM,hm⟩;exact ⟨x, .inr (.inr hx),ht⟩
theorem see_dir {L:List Nd} {k:Fx} (hx:(Fx.cons L k .nil).okX) {q p t:ByteArray} (hz:¬q.size=0) (hp:za0 p=true) (hn:names p=names q++[t]) {m:Nd} (h:zc9 L k p=some m):∃d,zc9 L k q=some d∧d.kind=1:=by
 have hpz:¬p.size=0:=fun e=>by
  rw [yb4 hx.1 e] at h;cases h
 have hf:∃n,fnX L k p=some n:=by
  unfold zc9 at h;cases e:fnX L k p with
  |none=>rw [e] at h;cases h
  |some n=>exact ⟨n,rfl⟩
 obtain ⟨n,hf⟩:=hf;have hq1:1≤(names q).length:=List.length_pos_iff.2 (yb2 hz)
 have hl:(zb3 p).length=(names q).length+1:=by
  rw [show (zb3 p).length=(names p).length from zm7 _ _,hn,List.length_append,List.length_singleton]
 obtain ⟨d,h1,h2⟩:=fn_up hx.1 hx.2.2.1 hx.2.2.2.1 hp hpz hf ((names q).length - 1) (by omega)
 have e:glue ((names p).take ((names q).length - 1+1))=q:=by
  rw [show (names q).length - 1+1=(names q).length by omega,hn,List.take_append_of_le_length (Nat.le_refl _),List.take_length,zj2]
 rw [e] at h1;refine ⟨noMark d,yc7 h1 (by omega),?_⟩;exact h2
theorem wn_same {XS:List (Int × List Nd)} {L:List Nd} {k:Fx} (hn:(nest (rowO XS)).isSome=true) (hx:nestX XS=some (L,k)) (ho:(Fx.cons L k .nil).okX) (hf:(Fx.cons L k .nil).flat=XS) {q:ByteArray} (hq:za0 q=true) {l:List ByteArray} (hl:Rise l) (hm:∀t,t∈l↔∃M∈za8 (.cons L k .nil),t∈zb2 q M):
  l.filter (fun t=>(zc9 L k (ze8 q t).1).isSome)=wnO XS q:=by
 have hlen:XS.length≤12:=by
  obtain ⟨F,hF⟩:=Option.isSome_iff_exists.1 hn;exact yb7 hF
 have hs:∀p,seeK XS p=zc9 L k p:=fun p=>by unfold seeK;rw [hx]
 have htr:∀x∈XS,zc7 x.2=true:=fun x h=>by rw [←hf] at h;exact (Fx.ok_mem ho x h).1
 have hkid:∀t,t∈l→za0 (zh5 q t)=true∧names (zh5 q t)=names q++[t]∧zb8 t=true:=fun t ht=>by
  obtain ⟨x,hx2,ht2⟩:=(yd9 q t _ ho).2 ((hm t).1 ht);rw [hf] at hx2;obtain ⟨n, -,h1,h2⟩:=kid_in (htr x hx2) ht2;have e:=yf0 h2 h1;rw [e];exact ⟨h2,h1,(zw5 h2).1 t (by rw [h1];simp)⟩
 have hj:∀t,t∈l→(names q).length<6→(ze8 q t).1=zh5 q t:=fun t ht h6=>by
  obtain ⟨h1,h2,h3⟩:=hkid t ht;have hq8:=zg0 hq
  have ht8:t.size≤200:=by
   have h4:=zg0 h1;have h5:t.size≤20:=by unfold zb8 at h3;exact (of_decide_eq_true h3).2.1
   omega
  rw [ze8,if_neg (by omega),if_neg (by simp [hq,h3]),zc1 hq,if_neg (by omega)];rfl
 have hj6:∀t,t∈l→¬ (names q).length<6→(ze8 q t).1=⟨#[]⟩:=fun t ht h6=>by
  have h5:=(zw5 hq).2;unfold ze8
  split
  ·rfl
  ·split
   ·rfl
   ·rw [zc1 hq,if_pos (by omega)]
 have hroot:zc9 L k ⟨#[]⟩=none:=yb4 ho.1 (by decide);by_cases hb:wnB XS q=true
 ·have e0:wnO XS q=wnC XS q XS:=if_pos hb;rw [e0];have h6:(names q).length<6:=by unfold wnB at hb;simp only [Bool.and_eq_true,decide_eq_true_eq] at hb;exact hb.2
  obtain ⟨h1,h2⟩:=wnC_ok XS q XS;refine rise_ext (rise_filter hl _) h1 (fun t=>?_);rw [List.mem_filter,h2,←hf,yd9 q t _ ho,←hm,hf]
  constructor
  ·rintro ⟨ht,hw⟩;rw [hj t ht h6] at hw;exact ⟨ht,by unfold zj5;rw [hs];exact hw⟩
  ·rintro ⟨ht,hw⟩;unfold zj5 at hw;rw [hs] at hw;exact ⟨ht,by rw [hj t ht h6];exact hw⟩
 ·have e0:wnO XS q=[]:=if_neg hb;rw [e0];refine List.filter_eq_nil_iff.2 (fun t ht hw=>hb ?_);by_cases h6:(names q).length<6
  ·rw [hj t ht h6] at hw;obtain ⟨m,hw⟩:=Option.isSome_iff_exists.1 hw;obtain ⟨h1,h2, -⟩:=hkid t ht;have hq8:=zg0 hq;unfold wnB
   have hd:(decide (q.size=0)||dirK (seeK XS q))=true:=by
    by_cases hz:q.size=0
    ·simp [hz]
    ·obtain ⟨d,h3,h4⟩:=see_dir ho hz h1 h2 hw;rw [hs,h3];simp [dirK,h4]
   rw [hd,hq,hn];simp
   omega
  ·rw [hj6 t ht h6,hroot] at hw;cases hw
end Pl
end
section
namespace Pl
def zq (XS:List (Int × List Nd)) (q:ByteArray):List ByteArray × Int:=if q.size=0∨dirK (zk1 XS q)=true then (wnO XS q,0) else match zk1 XS q with
 |none=>([],6)
 |some _=>([],12)
def zo (s:Sp) (p:ByteArray) (R:Bool):List ByteArray × Int:=if whyI p R=0 then (match zo5 (s.N.map Ns.r) (zf8 (uR p) s.M s.M.length).i with
 |none=>([],6)
 |some XS=>zq XS (rest p (zf8 (uR p) s.M s.M.length).p)) else ([],if whyI p R=1 then 2 else 1)
theorem listR_dir {XS:List (Int × List Nd)} {q:ByteArray} (h:q.size=0∨∃n,zk1 XS q=some n∧n.kind=1):zq XS q=(wnO XS q,0):=by
 unfold zq;rw [if_pos]
 rcases h with h|⟨n,h1,h2⟩
 ·exact .inl h
 ·right
  rw [h1];simp [dirK,h2]
theorem yj6 {XS:List (Int × List Nd)} {q:ByteArray} (hz:¬q.size=0) (h:zk1 XS q=none):zq XS q=([],6):=by
 unfold zq;rw [h,if_neg];rintro (h1|h1)
 ·exact hz h1
 ·cases h1
theorem yj7 {XS:List (Int × List Nd)} {q:ByteArray} (hz:¬q.size=0) {n:Nd} (h:zk1 XS q=some n) (hk:n.kind=2):zq XS q=([],12):=by
 unfold zq;rw [h,if_neg];rintro (h1|h1)
 ·exact hz h1
 ·simp [dirK,hk] at h1
end Pl
end
end Go.Proofs.YtbomeifgfalmdaaGreatDoor
