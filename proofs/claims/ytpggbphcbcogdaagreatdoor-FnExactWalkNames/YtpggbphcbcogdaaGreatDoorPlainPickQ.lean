import Derived.Test.YtpggbphcbcogdaaGreatDoorPlainPick
namespace Go.Proofs.YtpggbphcbcogdaaGreatDoor
open Go.RowKit
namespace Pl
theorem go_len:∀ (ns:List (Option Nd)) (k:Nat) (s:Sg),s.have'.length=4→(goD k s ns).have'.length=4:=by
 intro ns
 induction ns with
 |nil=>intro k s h;exact h
 |cons x ns ih=>
  intro k s h;cases x with
  |none=>exact ih _ _ h
  |some n=>
   rw [goD]
   split
   ·rw [take_len];exact h
   ·exact ih _ _ (by rw [take_len];exact h)
theorem dec_len (ns:List (Option Nd)):(decS ns).have'.length=4:=up_len (go_len ns 0 Sg.zero rfl)
theorem pick_skip (p:ByteArray):∀ (l:List (Nat × Option Nd)) (o:Ot) (m:Int),zc4 p o m l=zc4 p o m (l.filter (fun x=>x.2.isSome)):=by
 intro l
 induction l with
 |nil=>intro o m;rfl
 |cons x l ih=>
  intro o m;obtain ⟨k,y⟩:=x;cases y with
  |none=>simp only [zc4,List.filter];exact ih o m
  |some n=>
   simp only [List.filter,Option.isSome,zc4];rw [ih,ih];rfl
theorem sub_filter {l m:List Nat} (h:l.Sublist m):m.Nodup→m.filter (fun k=>decide (k∈l))=l:=by
 induction h with
 |slnil=>intro _;rfl
 | @cons l m a h ih=>
  intro hn;have hn':=List.nodup_cons.1 hn;have ha:a∉l:=fun h2=>hn'.1 (h.subset h2);rw [List.filter_cons_of_neg (by simpa using ha)];exact ih hn'.2
 | @cons_cons l m a h ih=>
  intro hn;have hn':=List.nodup_cons.1 hn;rw [List.filter_cons_of_pos (by simp)]
  congr 1
  rw [←ih hn'.2]
  apply List.filter_congr
  intro k hk;have :k≠a:=fun e=>hn'.1 (e ▸ hk);rw [ih hn'.2];simp [this]
theorem numb_map:∀ (ns:List (Option Nd)) (j:Nat),numb j ns=(List.range ns.length).map (fun i=>(j+i,ns.getD i none)):=by
 intro ns
 induction ns with
 |nil=>intro j;rfl
 |cons x ns ih=>
  intro j;rw [numb,ih,List.length_cons,List.range_succ_eq_map,List.map_cons,List.map_map]
  congr 1
  apply List.map_congr_left
  intro i _;simp
  omega
theorem filter_ask (ks:List Nat) (R:List Nat) (f:Nat→Option Nd):(R.map (fun i=>(i,if decide (i∈ks) then f i else none))).filter (fun x=>x.2.isSome)=((R.filter (fun k=>decide (k∈ks))).map (fun i=>(i,f i))).filter (fun x=>x.2.isSome):=by
 induction R with
 |nil=>rfl
 |cons a R ih=>
  by_cases h:a∈ks
  ·simp only [List.map_cons,List.filter_cons,h,decide_true,if_true]
   split <;> rw [ih]
  ·simp only [List.map_cons,List.filter_cons,h,decide_false,Bool.false_eq_true,if_false,Option.isSome];exact ih
theorem pick_sub (p:ByteArray):∀ (l:List (Nat × Option Nd)) (o:Ot) (m:Int),∃ks,ks.Sublist (l.map Prod.fst)∧((zc4 p o m l).parts=o.parts++ks∨(zc4 p o m l).parts=[]):=by
 intro l
 induction l with
 |nil=>intro o m;exact ⟨[],List.nil_sublist _, .inl (by simp [zc4,finO])⟩
 |cons x l ih=>
  intro o m;obtain ⟨k,y⟩:=x;cases y with
  |none=>
   obtain ⟨ks,h1,h2⟩:=ih o m;exact ⟨ks,h1.cons _,h2⟩
  |some n=>
   simp only [zc4];by_cases hp:o.parts=[]
   ·rw [if_pos hp];by_cases hk:n.kind=1
    ·rw [if_pos hk];by_cases hm:0<n.mark
     ·rw [if_pos hm];exact ⟨[k],by simp, .inl (by simp [finO,hp])⟩
     ·rw [if_neg hm];obtain ⟨ks,h1,h2⟩:=ih ⟨true,⟨p,1,⟨#[]⟩,n.time,0⟩,[k]⟩ (max m n.mark);refine ⟨k::ks,h1.cons_cons _,?_⟩
      rcases h2 with h2|h2
      ·exact .inl (by rw [h2,hp];rfl)
      ·exact .inr h2
    ·rw [if_neg hk]
     split
     ·exact ⟨[],List.nil_sublist _, .inr rfl⟩
     ·exact ⟨[],List.nil_sublist _, .inr rfl⟩
   ·rw [if_neg hp];by_cases hk:n.kind=1
    ·rw [if_pos hk];by_cases hm:0<n.mark
     ·rw [if_pos hm];exact ⟨[k],by simp, .inl (by simp [finO])⟩
     ·rw [if_neg hm];obtain ⟨ks,h1,h2⟩:=ih ⟨o.ok,o.node,o.parts++[k]⟩ (max m n.mark);refine ⟨k::ks,h1.cons_cons _,?_⟩
      rcases h2 with h2|h2
      ·exact .inl (by rw [h2];simp)
      ·exact .inr h2
    ·rw [if_neg hk];exact ⟨[],List.nil_sublist _, .inl (by simp [finO])⟩
theorem go_path (p:ByteArray):∀ (ns:List (Option Nd)) (k:Nat) (s:Sg),(∀n,some n∈ns→n.path=p)→(s.told=true→s.node.path=p)→(goD k s ns).told=true→(goD k s ns).node.path=p:=by
 intro ns
 induction ns with
 |nil=>intro k s _ hs h;exact hs h
 |cons x ns ih=>
  intro k s hn hs h;have hn':∀n,some n∈ns→n.path=p:=fun n hm=>hn n (List.mem_cons_of_mem _ hm);cases x with
  |none=>exact ih _ _ hn' hs h
  |some n=>
   have h1:=hn n List.mem_cons_self
   have ht:(zc2 s k n).node.path=p:=by
    unfold zc2 zf8;cases hst:s.told
    ·exact h1
    ·exact hs hst
   rw [goD] at h ⊢
   split at h
   ·rw [if_pos (by assumption)];exact ht
   ·rw [if_neg (by assumption)];exact ih _ _ hn' (fun _=>ht) h
theorem dec_path {p:ByteArray} {ns:List (Option Nd)} (hn:∀n,some n∈ns→n.path=p) (h:(decS ns).told=true):(decS ns).node.path=p:=by
 unfold decS upS at h ⊢
 split at h
 ·cases h
 ·rw [if_neg (by assumption)];exact go_path p ns 0 Sg.zero hn (fun h2=>by cases h2) h
theorem mark_node {n:Nd} {m:Int} (h:zb3 n=true) (hk:n.kind=1) (hm:0≤m∧m≤8):zb3 ⟨n.path,n.kind,n.data,n.time,m⟩=true:=by
 unfold zb3 at h ⊢;simp only [Bool.and_eq_true,decide_eq_true_eq] at h ⊢;refine ⟨⟨h.1.1,hm⟩,?_⟩;have h2:=h.2;unfold zg3 at h2 ⊢;simp only [hk] at h2 ⊢
 simpa using h2
theorem go_node:∀ (ns:List (Option Nd)) (k:Nat) (s:Sg),(∀n,some n∈ns→zb3 n=true)→(s.told=true→zb3 s.node=true∧s.node.kind=1)→(goD k s ns).told=true→zb3 (goD k s ns).node=true:=by
 intro ns
 induction ns with
 |nil=>intro k s _ hs h;exact (hs h).1
 |cons x ns ih=>
  intro k s hn hs h;have hn':∀n,some n∈ns→zb3 n=true:=fun n hm=>hn n (List.mem_cons_of_mem _ hm);cases x with
  |none=>exact ih _ _ hn' hs h
  |some n=>
   have h1:=hn n List.mem_cons_self;have hb:=zn5 h1
   have ht:zb3 (zc2 s k n).node=true∧(n.kind=1→(zc2 s k n).node.kind=1):=by
    unfold zc2 zf8;cases hst:s.told
    ·simp only [Bool.false_eq_true,if_false];rw [Int.max_self];exact ⟨h1,fun h=>h⟩
    ·obtain ⟨h2,h3⟩:=hs hst;have hb2:=zn5 h2;simp only [if_true];exact ⟨mark_node h2 h3 (by omega),fun _=>h3⟩
   rw [goD] at h ⊢
   split at h
   ·rw [if_pos (by assumption)];exact ht.1
   ·rename_i hst
    rw [if_neg hst];refine ih _ _ hn' (fun _=>⟨ht.1,ht.2 ?_⟩) h;simp [ze6] at hst
    exact hst.1
theorem up_node {s:Sg} (h:s.told=true→zb3 s.node=true) (ht:(upS s).told=true):zb3 (upS s).node=true:=by
 unfold upS at ht ⊢
 split at ht
 ·cases ht
 ·rename_i hz
  rw [if_neg hz];have h1:=h ht;have hb:=zn5 h1;unfold zb3 at h1 ⊢;simp only [Bool.and_eq_true,decide_eq_true_eq] at h1 ⊢;refine ⟨⟨h1.1.1,by omega⟩,?_⟩;have h2:=h1.2;unfold zg3 at h2 ⊢;simp only at hz h2 ⊢;by_cases k0:s.node.kind=0
  ·simp only [k0,if_true,Bool.and_eq_true,decide_eq_true_eq,true_and] at hz h2 ⊢;exact ⟨h2.1,by omega⟩
  ·by_cases k1:s.node.kind=1
   ·simp only [if_neg k0,if_pos k1] at h2 ⊢;exact h2
   ·simp only [if_neg k0,if_neg k1] at h2 ⊢
    split at h2
    ·rename_i k2
     rw [if_pos k2];simp only [decide_eq_true_eq] at h2 ⊢;omega
    ·cases h2
theorem dec_node {ns:List (Option Nd)} (hn:∀n,some n∈ns→zb3 n=true) (ht:(decS ns).told=true):zb3 (decS ns).node=true:=
 up_node (fun h=>go_node ns 0 Sg.zero hn (fun h2=>by cases h2) h) ht
theorem up_zero:upS Sg.zero=Sg.zero:=by
 unfold upS
 split <;> rfl
end Pl
end Go.Proofs.YtpggbphcbcogdaaGreatDoor
