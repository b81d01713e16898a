import Derived.Test.YtpggbphcbcogdaaGreatDoorMapN
import Derived.Maps.RangeWalk
import Derived.Sort.MapsRangeIn
namespace Go.Proofs.YtpggbphcbcogdaaGreatDoor
open Go.RowKit Go.Maps
namespace MapN
theorem keyOf_inv {p:ByteArray} {kl:Lit} (h:keyOf Tryz.prog 9 (.string p)=some kl):kl=key p:=by
 simp [keyOf,Tryz.underlying9,mapKey] at h
 rw [←h.2];rfl
structure Reads (D:DataW Unit) (C:List Pl.Nd):Prop where
 has:∀n∈C,Maps.has D (key n.path)=true
 ent:∀ (p:ByteArray) (c:Pl.Nd),(∀z,D.atKey (key p) z=dat c)→c∈C∧p=c.path
structure Got (C T:List Pl.Nd) (left:Lit→Bool):Prop where
 sub:∀t∈T,t∈C
 apart:T.Pairwise (fun a b=>a.path≠b.path)
 seen:∀t∈T,left (key t.path)=false
 all:∀n∈C,left (key n.path)=false→n∈T
theorem got_start {C:List Pl.Nd} {D:DataW Unit} (hD:Reads D C):Got C [] (Maps.has D):=
 ⟨fun t h=>absurd h (by simp),List.Pairwise.nil,fun t h=>absurd h (by simp),fun n hn h=>by rw [hD.has n hn] at h;cases h⟩
theorem one_apart {C:List Pl.Nd} (h:C.Pairwise (fun a b=>a.path≠b.path)) {a b:Pl.Nd} (ha:a∈C) (hb:b∈C) (e:a.path=b.path):a=b:=by
 induction h with
 |nil=>cases ha
 |cons h1 _ ih=>
  rcases List.mem_cons.1 ha with ha1|ha1
  ·rcases List.mem_cons.1 hb with hb1|hb1
   ·rw [ha1,hb1]
   ·exact absurd (ha1 ▸ e) (h1 _ hb1)
  ·rcases List.mem_cons.1 hb with hb1|hb1
   ·exact absurd (hb1 ▸ e).symm (h1 _ ha1)
   ·exact ih ha1 hb1
theorem entry_in {C:List Pl.Nd} {p:ByteArray} {c:Pl.Nd} (hC:C.Pairwise (fun a b=>a.path≠b.path)) (h:∀z,(mapOf C).atKey (key p) z=dat c):c∈C∧p=c.path:=by
 by_cases hp:∃n∈C,n.path=p
 ·obtain ⟨n,hn,rfl⟩:=hp;have e:=(at_yes hC hn).2 (dat c);rw [h] at e;have e2:=dat_inj e;subst e2;exact ⟨hn,rfl⟩
 ·exfalso;have hm:∀n∈C,n.path≠p:=fun n hn e=>hp ⟨n,hn,e⟩;have h1:=(zs8 p C (.map []) hm).2;have a:∀z,dat c=z:=fun z=>by rw [←h z];exact h1 z
  have a1:=a (dat ⟨p,c.kind+1,p,0,0⟩);have a2:=dat_inj a1;have a3:=congrArg Pl.Nd.kind a2;simp only at a3;omega
theorem zv4 {C:List Pl.Nd} (hC:C.Pairwise (fun a b=>a.path≠b.path)):Reads (mapOf C) C:=⟨fun _ hn=>(at_yes hC hn).1,fun _ _ h=>entry_in hC h⟩
theorem got_step {C T:List Pl.Nd} {left:Lit→Bool} {c:Pl.Nd} (hC:C.Pairwise (fun a b=>a.path≠b.path)) (h:Got C T left) (hc:c∈C) (hl:left (key c.path)=true):Got C (T++[c]) (fun z=>left z&&!z.sameKey (key c.path)):=by
 have same:(key c.path).sameKey (key c.path)=true:=by simp [key,Lit.sameKey]
 refine ⟨fun t ht=>?_,?_,fun t ht=>?_,fun n hn hf=>?_⟩
 ·rcases List.mem_append.1 ht with ht|ht
  ·exact h.sub t ht
  ·simp at ht;subst ht;exact hc
 ·rw [List.pairwise_append];refine ⟨h.apart,List.pairwise_singleton _ _,fun a ha b hb e=>?_⟩;simp at hb;subst hb
  have :=h.seen a ha;rw [e,hl] at this;cases this
 ·rcases List.mem_append.1 ht with ht|ht
  ·show (left (key t.path)&&_)=false;rw [h.seen t ht];rfl
  ·simp at ht;subst ht
   show (left (key t.path)&&!(key t.path).sameKey (key t.path))=false;rw [same];simp
 ·by_cases e:n.path=c.path
  ·rw [one_apart hC hn hc e];simp
  ·refine List.mem_append.2 (.inl (h.all n hn ?_));have hs:=sameKey_ne (key_ne e);have hf':(left (key n.path)&&!(key n.path).sameKey (key c.path))=false:=hf;rw [hs] at hf'
   simpa using hf'
theorem got_end {C T:List Pl.Nd} {left:Lit→Bool} (hC:C.Pairwise (fun a b=>a.path≠b.path)) (h:Got C T left) (hl:∀k,left k=false):T.Perm C:=by
 refine (List.perm_ext_iff_of_nodup (h.apart.imp (fun {a b} hne e=>hne (by rw [e]))) (hC.imp (fun {a b} hne e=>hne (by rw [e])))).2 fun x=>⟨h.sub x,fun hx=>h.all x hx (hl _)⟩
end MapN
end Go.Proofs.YtpggbphcbcogdaaGreatDoor
