import Derived.Test.YtpggbphcbcogdaaGreatDoorPlainState
namespace Go.Proofs.YtpggbphcbcogdaaGreatDoor
open Go.RowKit
namespace Pl
def hist (h:List ByteArray):List (List ByteArray):=(List.range h.length).map (fun i=>h.take (i+1))
theorem hist_nil:hist []=[]:=rfl
theorem zu3 (h:List ByteArray) (q:ByteArray):hist (h++[q])=hist h++[h++[q]]:=by
 unfold hist;rw [List.length_append,List.length_singleton,List.range_succ,List.map_append]
 congr 1
 ·apply List.map_congr_left
  intro i hi;rw [List.take_append_of_le_length (by have :=List.mem_range.1 hi;omega)]
 ·simp [List.take_of_length_le]
def fnsH:Fx→List (List ByteArray→Option Nd)
 | .nil=>[]
 | .cons L k m=>(fun h=>if k.len=0 then lk L (h.getLastD ⟨#[]⟩) else zj1 (zd6 (fnsH k) (zd2 k.len) (hist h)))::fnsH m
def fnH (L:List Nd) (k:Fx):List ByteArray→Option Nd:=fun h=>if k.len=0 then lk L (h.getLastD ⟨#[]⟩) else zj1 (zd6 (fnsH k) (zd2 k.len) (hist h))
theorem fnsH_cons (L:List Nd) (k m:Fx):fnsH (.cons L k m)=fnH L k::fnsH m:=rfl
theorem fnH_leaf {L:List Nd} {k:Fx} (h0:k.len=0) (h:List ByteArray) (q:ByteArray):fnH L k (h++[q])=lk L q:=by
 unfold fnH;rw [if_pos h0];simp
theorem fnH_nest {L:List Nd} {k:Fx} (h0:k.len≠0) (h:List ByteArray):fnH L k h=zj1 (zd6 (fnsH k) (zd2 k.len) (hist h)):=if_neg h0
theorem fnsH_len (F:Fx):(fnsH F).length=F.len:=by
 induction F with
 |nil=>rfl
 |cons L k m _ ih=>rw [fnsH_cons,List.length_cons,ih];rfl
theorem fnsH_get {F:Fx}:∀ {i:Nat} {L:List Nd} {k:Fx},kid F i=some (L,k)→(fnsH F)[i]? =some (fnH L k):=by
 induction F with
 |nil=>intro i L k h;cases h
 |cons L' k' m _ ih=>
  intro i L k h;cases i with
  |zero=>cases h;rfl
  |succ i=>rw [fnsH_cons,List.getElem?_cons_succ];exact ih (i:=i) h
theorem mark_of {n:Nd} (h:zb3 n=true):0≤n.mark∧n.mark≤8:=by
 simp only [zb3,Bool.and_eq_true,decide_eq_true_eq] at h;omega
theorem go_mark:∀ (ns:List (Option Nd)) (k:Nat) (s:Sg),(0≤s.node.mark∧s.node.mark≤8)→(∀n,some n∈ns→0≤n.mark∧n.mark≤8)→0≤(goD k s ns).node.mark∧(goD k s ns).node.mark≤8:=by
 intro ns
 induction ns with
 |nil=>intro k s h _;exact h
 |cons y ns ih=>
  intro k s h hn;cases y with
  |none=>exact ih _ _ h (fun n hm=>hn n (List.mem_cons_of_mem _ hm))
  |some n=>
   have h2:=take_mark (k:=k) h (hn n List.mem_cons_self);rw [goD]
   split
   ·exact h2
   ·exact ih _ _ h2 (fun n hm=>hn n (List.mem_cons_of_mem _ hm))
theorem dec_mark {ns:List (Option Nd)} (hn:∀n,some n∈ns→0≤n.mark∧n.mark≤8):0≤(decS ns).node.mark∧(decS ns).node.mark≤8:=by
 have h:=go_mark ns 0 Sg.zero (by decide) hn;unfold decS upS
 split
 ·decide
 ·dsimp only;omega
theorem fnsH_mark (F:Fx):F.okX→∀f∈fnsH F,∀h m,f h=some m→0≤m.mark∧m.mark≤8:=by
 induction F with
 |nil=>intro _ f h;cases h
 |cons L k m ihk ihm=>
  intro ho f hf;rw [fnsH_cons] at hf
  rcases List.mem_cons.1 hf with rfl |hf
  ·intro h n hn;by_cases hk:k.len=0
   ·unfold fnH at hn;rw [if_pos hk] at hn;have hm:=List.mem_of_find?_eq_some hn;have ht:=ho.1;simp only [zb9,Bool.and_eq_true,decide_eq_true_eq] at ht;exact mark_of (goI_all L _ _ ht.2 n hm)
   ·rw [fnH_nest hk] at hn;unfold zj1 at hn
    split at hn
    ·cases hn
     rcases List.eq_nil_or_concat h with rfl |⟨h',q,rfl⟩
     ·rw [hist_nil];exact ⟨Int.le_refl _,(by decide :(0:Int)≤8)⟩
     ·rw [List.concat_eq_append,zu3,zl9]
      exact dec_mark (fun n hn=>by
       obtain ⟨g,hg,e⟩:=nsF_mem _ _ _ _ hn
       exact ihk ho.2.2.2.1 g hg _ n e)
    ·cases hn
  ·exact ihm ho.2.2.2.2 f hf
theorem zp1 {q:ByteArray} (hq:za2 q=true) {i:Nat} (hi:i<(zb1 q).length):zb1 (glue ((names q).take (i+1)))=(zb1 q).take (i+1):=by
 have e:=(ze2 q);rw [zc0 hq] at e;have hn:∀t∈(names q).take (i+1),zb4 t=true:=zn1 e.1 _;have e2:=zi4 hn;have hl:(zb1 q).length=(names q).length:=zi0 _ _;unfold zb1;rw [e2];unfold ways;rw [List.length_take,Nat.min_eq_left (by omega),←List.map_take,List.take_range,Nat.min_eq_left (by omega)]
 apply List.map_congr_left
 intro j hj;have :=List.mem_range.1 hj;rw [List.take_take,Nat.min_eq_left (by omega)]
theorem zq7 {q:ByteArray} {i:Nat} (hi:i<(zb1 q).length):(zb1 q)[i]? =some (glue ((names q).take (i+1))):=by
 have hl:(zb1 q).length=(names q).length:=zi0 _ _;unfold zb1 ways;rw [List.getElem?_map,List.getElem?_range (by omega)];rfl
theorem hist_ways {q:ByteArray} (hq:za2 q=true):hist (zb1 q)=(zb1 q).map zb1:=by
 apply List.ext_getElem?
 intro i;by_cases hi:i<(zb1 q).length
 ·unfold hist;rw [List.getElem?_map,List.getElem?_map,List.getElem?_range hi,zq7 hi];simp only [Option.map_some];rw [zp1 hq hi]
 ·rw [List.getElem?_eq_none (by unfold hist;simp;omega),List.getElem?_eq_none (by simp;omega)]
theorem nsF_hist {fs:List Fq} {gs:List (List ByteArray→Option Nd)} {q:ByteArray} (h:∀ (i:Nat) (f:Fq) (g:List ByteArray→Option Nd),fs[i]? =some f→gs[i]? =some g→g (zb1 q)=f q):∀ (ab:List Bool),fs.length=gs.length→nsF ab gs (zb1 q)=nsF ab fs q:=by
 intro ab
 induction ab generalizing fs gs with
 |nil=>intro _;rfl
 |cons a ab ih=>
  intro hl;cases fs with
  |nil=>cases gs with
   |nil=>rfl
   |cons=>simp at hl
  |cons f fs=>cases gs with
   |nil=>simp at hl
   |cons g gs=>
    show (if a then g (zb1 q) else none)::nsF ab gs (zb1 q)=(if a then f q else none)::nsF ab fs q;rw [h 0 f g rfl rfl,ih (fun i f g h1 h2=>h (i+1) f g h1 h2) (by simpa using hl)]
theorem walkF_hist {fs:List Fq} {gs:List (List ByteArray→Option Nd)} (hl:fs.length=gs.length):∀ (ps:List ByteArray) (s:Sg),(∀q∈ps,∀ (i:Nat) (f:Fq) (g:List ByteArray→Option Nd),fs[i]? =some f→gs[i]? =some g→g (zb1 q)=f q)→zd6 gs s (ps.map zb1)=zd6 fs s ps:=by
 intro ps
 induction ps with
 |nil=>intro s _;rfl
 |cons q ps ih=>
  intro s h;show zd6 gs (decS (nsF s.have' gs (zb1 q))) (ps.map zb1)=zd6 fs (decS (nsF s.have' fs q)) ps;rw [nsF_hist (h q List.mem_cons_self) _ hl];exact ih _ (fun x hx=>h x (List.mem_cons_of_mem _ hx))
theorem fnsH_ways (F:Fx):∀q,za2 q=true→¬q.size=0→∀ (i:Nat) (f:Fq) (g:List ByteArray→Option Nd),(fnsX F)[i]? =some f→(fnsH F)[i]? =some g→g (zb1 q)=f q:=by
 induction F with
 |nil=>intro q _ _ i f g h;cases i <;> cases h
 |cons L k m ihk ihm=>
  intro q hq hz i f g h1 h2;cases i with
  |zero=>
   rw [fns_cons] at h1;rw [fnsH_cons] at h2;cases h1
   cases h2
   by_cases hk:k.len=0
   ·rw [fn_leaf hk];obtain ⟨ps,hps⟩:=zq6 hz;rw [hps,fnH_leaf hk]
   ·rw [fn_nest hk,fnH_nest hk,hist_ways hq,walkF_hist (by rw [fns_len,fnsH_len]) (zb1 q) (zd2 k.len) (fun x hx=>ihk x (zi3 hq x hx).1 (zi3 hq x hx).2)]
  |succ i=>exact ihm q hq hz i f g h1 h2
theorem fnH_ways (L:List Nd) (k:Fx) {q:ByteArray} (hq:za2 q=true) (hz:¬q.size=0):fnH L k (zb1 q)=fnX L k q:=
 fnsH_ways (.cons L k .nil) q hq hz 0 _ _ rfl rfl
end Pl
end Go.Proofs.YtpggbphcbcogdaaGreatDoor
