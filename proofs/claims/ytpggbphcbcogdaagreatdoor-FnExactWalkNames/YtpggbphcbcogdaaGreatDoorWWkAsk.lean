import Derived.Test.YtpggbphcbcogdaaGreatDoorPlainGetV
import Derived.Test.YtpggbphcbcogdaaGreatDoorWNodeAt
import Derived.Test.YtpggbphcbcogdaaGreatDoorWWkAt
namespace Go.Proofs.YtpggbphcbcogdaaGreatDoor
open Go.RowKit Go.Maps
namespace WWk
open zf5
set_option maxRecDepth 100000 in
theorem ask_any (B:Nat) (q:ByteArray) (hs:q.size≤1048576) (ps:List ByteArray):∀ (d:Nat) (L:List Pl.Nd) (k:Pl.Fx) (v:Value) (lo hi:Nat) (W:World),k.shape.depth≤d→Pl.zb9 L=true→k.okX→k.len≤4→Wk B d L k ps v lo hi W→
  Ask W v q (Pl.fnH L k (ps++[q])) lo hi (Wk B d L k (ps++[q]) v lo hi):=by
 have leaf:∀ (L:List Pl.Nd) (k:Pl.Fx) (v:Value) (lo hi:Nat) (W:World) (Q:World→Prop),k.len=0→Pl.zb9 L=true→Lf B L v W→(∀W',Lf B L v W'→Q W')→Ask W v q (Pl.fnH L k (ps++[q])) lo hi Q:=by
  rintro L k v lo hi W Q h0 ht ⟨b,hb,rfl,hm⟩ hQ;rw [Pl.fnH_leaf h0];refine ⟨_,_,132, .map (some b),rfl,fun _ _=>by kernel_rfl,fun _=>by kernel_rfl,?_⟩;have hlt:=hm.lt;cases hf:Pl.lk L q with
  |none=>
   have hmiss:∀n∈L,n.path≠q:=fun n hn e=>by
    have :=List.find?_eq_none.1 hf n hn;simp [e] at this
   refine (at_some b 40 (MapN.mapOf L) q ⟨⟨#[]⟩,0,⟨#[]⟩,0,0⟩ W hs hm (Maps.atKey_of_not_has (MapN.has_no hmiss) _) false (MapN.has_no hmiss)).mono ?_;rintro e w' ⟨rfl,bb⟩;exact ⟨rfl,Mem.Band.of_below bb,hQ w' ⟨b,hb,rfl,hm.call bb⟩⟩
  |some m=>
   have hmem:=List.mem_of_find?_eq_some hf;have hp:m.path=q:=by simpa using List.find?_some hf
   obtain ⟨y1,y2⟩:=MapN.at_yes (Pl.zx ht) hmem;rw [hp] at y1 y2;refine (at_some b 40 (MapN.mapOf L) q m W hs hm (y2 _) true y1).mono ?_;rintro e w' ⟨rfl,bb⟩;exact ⟨rfl,Mem.Band.of_below bb,hQ w' ⟨b,hb,rfl,hm.call bb⟩⟩
 intro d
 induction d with
 |zero=>
  intro L k v lo hi W hd ht hk h4 h
  have h0:k.len=0:=by
   cases k with
   |nil=>rfl
   |cons L k m=>simp only [Pl.Fx.shape,Pl.Fo.depth] at hd;omega
  exact leaf L k v lo hi W _ h0 ht h (fun W' h=>h)
 |succ d ih=>
  intro L k v lo hi W hd ht hk h4 h;by_cases h0:k.len=0
  ·simp only [Wk] at h ⊢;rw [if_pos h0] at h;exact leaf L k v lo hi W _ h0 ht h (fun W' h=>by rw [if_pos h0];exact h)
  ·simp only [Wk] at h ⊢;rw [if_neg h0] at h;obtain ⟨p,x,g,cap,vs,bl,bh,rfl,c⟩:=h;have hl:=Pl.walkF_len (Pl.fnsH k) k.len (Pl.hist ps);have hfn:Pl.fnH L k (ps++[q])=Pl.zj1 (Pl.decS (Pl.nsF (Pl.zd6 (Pl.fnsH k) (Pl.zd2 k.len) (Pl.hist ps)).have' (Pl.fnsH k) (ps++[q]))):=by rw [Pl.fnH_nest h0,Pl.zu3,Pl.zl9]
   rw [hfn];have hwk:Pl.zd6 (Pl.fnsH k) (Pl.zd2 k.len) (Pl.hist (ps++[q]))=Pl.decS (Pl.nsF (Pl.zd6 (Pl.fnsH k) (Pl.zd2 k.len) (Pl.hist ps)).have' (Pl.fnsH k) (ps++[q])):=by rw [Pl.zu3,Pl.zl9]
   have hlen:=Pl.nsF_len (ps++[q]) (Pl.zd6 (Pl.fnsH k) (Pl.zd2 k.len) (Pl.hist ps)).have' (Pl.fnsH k) (by rw [Pl.fnsH_len,hl];exact h4);have hget:=fun i a f=>Pl.nsF_get (ps++[q]) (Pl.zd6 (Pl.fnsH k) (Pl.zd2 k.len) (Pl.hist ps)).have' (Pl.fnsH k) i a f;rw [hwk];generalize (Pl.zd6 (Pl.fnsH k) (Pl.zd2 k.len) (Pl.hist ps)).have'=hv at c hl hlen hget ⊢;generalize Pl.nsF hv (Pl.fnsH k) (ps++[q])=ns at hlen hget ⊢
   obtain ⟨a0,a1,a2,a3,rfl⟩:∃h0 h1 h2 h3,hv=[h0,h1,h2,h3]:=by
    match hv,hl with
    | [a,b,c,d],_=>exact ⟨a,b,c,d,rfl⟩
   refine ⟨_,_,136, .pointer (some ⟨p,0,none⟩),rfl,fun _ _=>by kernel_rfl,fun _=>by kernel_rfl,?_⟩;have loc:∀ (ps:List ByteArray) (i:Nat),Local B (bl i) (bh i) (fun W=>∀L' k',Pl.kid k i=some (L',k')→Wk B d L' k' ps (vs i) (bl i) (bh i) W):=fun ps i W W' a1 a2 hh ss L' k' e=>zm3 B d L' k' ps (vs i) (bl i) (bh i) W W' a1 a2 (hh L' k' e) ss;have hA:=at_walk (q:=q) (f:=fun i=>(Pl.fnsH k).getD i (fun _=>none) (ps++[q])) (ns:=ns) (Q:=fun i W=>∀L' k',Pl.kid k i=some (L',k')→Wk B d L' k' (ps++[q]) (vs i) (bl i) (bh i) W) a0 a1 a2 a3 W c h4 (fun i _=>loc ps i) (fun i _=>loc (ps++[q]) i) ?_ ?_ (by rw [hlen,Pl.fnsH_len]) ?_
   ·refine hA.mono ?_;rintro e w' ⟨rfl,b,co⟩;obtain ⟨e1,e2⟩:=Pl.tell_val ns;rw [e1,e2];refine ⟨rfl,b,?_⟩
    dsimp only
    rw [if_neg h0];exact ⟨p,x,g,cap,vs,bl,bh,rfl,co⟩
   ·intro i W' hi hsz hP;obtain ⟨L',k',hk'⟩:=Pl.zr8 hi;obtain ⟨g1,g2,g3,g4⟩:=Pl.kid_ok hk hk';have hdd:=Pl.zt7 hk';have :=ih L' k' (vs i) (bl i) (bh i) W' (by omega) g1 g4 g3 (hP L' k' hk');have hf:(Pl.fnsH k).getD i (fun _=>none) (ps++[q])=Pl.fnH L' k' (ps++[q]):=by rw [List.getD,Pl.fnsH_get hk'];rfl
    rw [hf];obtain ⟨T,x',F,r,h1,h2,h3,h4'⟩:=this;refine ⟨T,x',F,r,h1,h2,h3,h4'.mono ?_⟩;rintro e w' ⟨rfl,b,hw⟩;exact ⟨rfl,b,fun L2 k2 e2=>by rw [hk'] at e2;cases e2;exact hw⟩
   ·intro i m hm
    have hi:i<(Pl.fnsH k).length:=by
     by_cases hi:i<(Pl.fnsH k).length
     ·exact hi
     ·rw [List.getD,List.getElem?_eq_none (by omega)] at hm;cases hm
    have hmem:(Pl.fnsH k).getD i (fun _=>none)∈Pl.fnsH k:=by
     rw [List.getD,List.getElem?_eq_getElem hi];exact List.getElem_mem hi
    exact Pl.fnsH_mark k hk _ hmem _ m hm
   ·intro i a hi ha;obtain ⟨L',k',hk'⟩:=Pl.zr8 hi;have e1:=Pl.fnsH_get hk';rw [List.getD,e1];exact hget i a _ ha e1
end WWk
end Go.Proofs.YtpggbphcbcogdaaGreatDoor
