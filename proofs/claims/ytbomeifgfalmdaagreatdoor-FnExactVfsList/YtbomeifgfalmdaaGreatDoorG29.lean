/- Several texts of one claim in one file: WWkAsk, WNestF, WOvK, WWkOf, WPathsX. -/
import Derived.Test.YtbomeifgfalmdaaGreatDoorWWkAt
set_option maxRecDepth 100000
set_option linter.unusedSimpArgs false
set_option maxHeartbeats 4000000
namespace Go.Proofs.YtbomeifgfalmdaaGreatDoor
section
open Go.RowKit Go.Maps
namespace WWk
open zi3
theorem ask_any (B:Nat) (q:ByteArray) (hs:q.size≤1048576) (ps:List ByteArray):∀ (d:Nat) (L:List Pl.Nd) (k:Pl.Fx) (v:Value) (lo hi:Nat) (W:World),k.shape.depth≤d→Pl.zc7 L=true→k.okX→k.len≤4→Wk B d L k ps v lo hi W→
  Ask W v q (Pl.fnH L k (ps++[q])) lo hi (Wk B d L k (ps++[q]) v lo hi):=by
 have leaf:∀ (L:List Pl.Nd) (k:Pl.Fx) (v:Value) (lo hi:Nat) (W:World) (Q:World→Prop),k.len=0→Pl.zc7 L=true→Lf B L v W→(∀W',Lf B L v W'→Q W')→Ask W v q (Pl.fnH L k (ps++[q])) lo hi Q:=by
  rintro L k v lo hi W Q h0 ht ⟨b,hb,rfl,hm⟩ hQ;rw [Pl.fnH_leaf h0];refine ⟨_,_,215, .map (some b),rfl,fun _ _=>by kernel_rfl,fun _=>by kernel_rfl,?_⟩;have hlt:=hm.lt;cases hf:Pl.lk L q with
  |none=>
   have hmiss:∀n∈L,n.path≠q:=fun n hn e=>by
    have :=List.find?_eq_none.1 hf n hn;simp [e] at this
   refine (at_some b 40 (MapN.mapOf L) q ⟨⟨#[]⟩,0,⟨#[]⟩,0,0⟩ W hs hm (Maps.atKey_of_not_has (MapN.has_no hmiss) _) false (MapN.has_no hmiss)).mono ?_;rintro e w' ⟨rfl,bb⟩;exact ⟨rfl,Mem.Band.of_below bb,hQ w' ⟨b,hb,rfl,hm.call bb⟩⟩
  |some m=>
   have hmem:=List.mem_of_find?_eq_some hf;have hp:m.path=q:=by simpa using List.find?_some hf
   obtain ⟨y1,y2⟩:=MapN.zz8 (Pl.yk4 ht) hmem;rw [hp] at y1 y2;refine (at_some b 40 (MapN.mapOf L) q m W hs hm (y2 _) true y1).mono ?_;rintro e w' ⟨rfl,bb⟩;exact ⟨rfl,Mem.Band.of_below bb,hQ w' ⟨b,hb,rfl,hm.call bb⟩⟩
 intro d
 induction d with
 |zero=>
  intro L k v lo hi W hd ht hk h4 h
  have h0:k.len=0:=by
   cases k with
   |nil=>rfl
   |cons L k m=>simp only [Pl.Fx.shape,Pl.Fo.depth] at hd;omega
  exact leaf L k v lo hi W _ h0 ht h (fun W' h=>h)
 |succ d ih=>
  intro L k v lo hi W hd ht hk h4 h;by_cases h0:k.len=0
  ·simp only [Wk] at h ⊢;rw [if_pos h0] at h;exact leaf L k v lo hi W _ h0 ht h (fun W' h=>by rw [if_pos h0];exact h)
  ·simp only [Wk] at h ⊢;rw [if_neg h0] at h;obtain ⟨p,x,g,cap,vs,bl,bh,rfl,c⟩:=h;have hl:=Pl.walkF_len (Pl.fnsH k) k.len (Pl.hist ps);have hfn:Pl.fnH L k (ps++[q])=Pl.zn7 (Pl.decS (Pl.nsF (Pl.zf4 (Pl.fnsH k) (Pl.ze9 k.len) (Pl.hist ps)).have' (Pl.fnsH k) (ps++[q]))):=by rw [Pl.fnH_nest h0,Pl.yf6,Pl.zp8]
   rw [hfn];have hwk:Pl.zf4 (Pl.fnsH k) (Pl.ze9 k.len) (Pl.hist (ps++[q]))=Pl.decS (Pl.nsF (Pl.zf4 (Pl.fnsH k) (Pl.ze9 k.len) (Pl.hist ps)).have' (Pl.fnsH k) (ps++[q])):=by rw [Pl.yf6,Pl.zp8]
   have hlen:=Pl.nsF_len (ps++[q]) (Pl.zf4 (Pl.fnsH k) (Pl.ze9 k.len) (Pl.hist ps)).have' (Pl.fnsH k) (by rw [Pl.fnsH_len,hl];exact h4);have hget:=fun i a f=>Pl.nsF_get (ps++[q]) (Pl.zf4 (Pl.fnsH k) (Pl.ze9 k.len) (Pl.hist ps)).have' (Pl.fnsH k) i a f;rw [hwk];generalize (Pl.zf4 (Pl.fnsH k) (Pl.ze9 k.len) (Pl.hist ps)).have'=hv at c hl hlen hget ⊢;generalize Pl.nsF hv (Pl.fnsH k) (ps++[q])=ns at hlen hget ⊢
   obtain ⟨a0,a1,a2,a3,rfl⟩:∃h0 h1 h2 h3,hv=[h0,h1,h2,h3]:=by
    match hv,hl with
    | [a,b,c,d],_=>exact ⟨a,b,c,d,rfl⟩
   refine ⟨_,_,235, .pointer (some ⟨p,0,none⟩),rfl,fun _ _=>by kernel_rfl,fun _=>by kernel_rfl,?_⟩;have loc:∀ (ps:List ByteArray) (i:Nat),Local B (bl i) (bh i) (fun W=>∀L' k',Pl.kid k i=some (L',k')→Wk B d L' k' ps (vs i) (bl i) (bh i) W):=fun ps i W W' a1 a2 hh ss L' k' e=>zt5 B d L' k' ps (vs i) (bl i) (bh i) W W' a1 a2 (hh L' k' e) ss;have hA:=at_walk (q:=q) (f:=fun i=>(Pl.fnsH k).getD i (fun _=>none) (ps++[q])) (ns:=ns) (Q:=fun i W=>∀L' k',Pl.kid k i=some (L',k')→Wk B d L' k' (ps++[q]) (vs i) (bl i) (bh i) W) a0 a1 a2 a3 W c h4 (fun i _=>loc ps i) (fun i _=>loc (ps++[q]) i) ?_ ?_ (by rw [hlen,Pl.fnsH_len]) ?_
   ·refine hA.mono ?_;rintro e w' ⟨rfl,b,co⟩;obtain ⟨e1,e2⟩:=Pl.tell_val ns;rw [e1,e2];refine ⟨rfl,b,?_⟩
    dsimp only
    rw [if_neg h0];exact ⟨p,x,g,cap,vs,bl,bh,rfl,co⟩
   ·intro i W' hi hsz hP;obtain ⟨L',k',hk'⟩:=Pl.yd1 hi;obtain ⟨g1,g2,g3,g4⟩:=Pl.kid_ok hk hk';have hdd:=Pl.ye8 hk';have :=ih L' k' (vs i) (bl i) (bh i) W' (by omega) g1 g4 g3 (hP L' k' hk');have hf:(Pl.fnsH k).getD i (fun _=>none) (ps++[q])=Pl.fnH L' k' (ps++[q]):=by rw [List.getD,Pl.fnsH_get hk'];rfl
    rw [hf];obtain ⟨T,x',F,r,h1,h2,h3,h4'⟩:=this;refine ⟨T,x',F,r,h1,h2,h3,h4'.mono ?_⟩;rintro e w' ⟨rfl,b,hw⟩;exact ⟨rfl,b,fun L2 k2 e2=>by rw [hk'] at e2;cases e2;exact hw⟩
   ·intro i m hm
    have hi:i<(Pl.fnsH k).length:=by
     by_cases hi:i<(Pl.fnsH k).length
     ·exact hi
     ·rw [List.getD,List.getElem?_eq_none (by omega)] at hm;cases hm
    have hmem:(Pl.fnsH k).getD i (fun _=>none)∈Pl.fnsH k:=by
     rw [List.getD,List.getElem?_eq_getElem hi];exact List.getElem_mem hi
    exact Pl.fnsH_mark k hk _ hmem _ m hm
   ·intro i a hi ha;obtain ⟨L',k',hk'⟩:=Pl.yd1 hi;have e1:=Pl.fnsH_get hk';rw [List.getD,e1];exact hget i a _ ha e1
end WWk
end
section
open Go.RowKit
namespace zh4
theorem yc8 (k:Pl.Fo) (q:Option Nat) (m:Int) (a:Option Addr) (cap:Nat) (w:World):
  Calls Tryz.prog 141 #[.agg #[.map q, .int .i64 m, .slice a k.len cap]] w fun e w'=>e= .returned (.bool (decide (k.len=0)))∧Below w.heap.size w w':=by
 by_cases h:k.len=0
 ·have t:(k.len:Int)=0:=by omega
  go_enter Tryz.func141,Tryz.ntmps141
  go_wp2
  go_ret
  exact ⟨by simp [h],bE0⟩
 ·have t:¬ (k.len:Int)=0:=by omega
  go_enter Tryz.func141,Tryz.ntmps141
  go_wp2
  go_ret
  exact ⟨by simp [h],bE0⟩
end zh4
end
section
open Go.RowKit Go.Maps
namespace Pl
end Pl
namespace WOverI
def layV (b:Nat):Value:= .iface 130 (.map (some b))
theorem zh6 {w w':World} {B n:Nat} {T:TypeId} {v:Value} {xs:List Value} (h:w.ownsRow B T 1 v n xs) (b:Below w.heap.size w w'):w'.ownsRow B T 1 v n xs:=by
 refine ⟨h.1,?_⟩
 rcases h.2 with h0|⟨g,cap,cur,hv,hb,hg,rest⟩
 ·exact .inl h0
 ·exact .inr ⟨g,cap,cur,hv,hb,(b.block g (Array.getElem?_eq_some_iff.1 hg).1).trans hg,rest⟩
structure Ov (w:World) (B:Nat) (v:Value) (Bs:List Nat) (Ls:List (List Pl.Nd)):Prop where
 row:w.ownsRow B 223 1 v Bs.length (Bs.map layV)
 len:Bs.length=Ls.length
 maps:∀ (j:Nat) b L,Bs[j]? =some b→Ls[j]? =some L→B≤b∧w.ownsMap Tryz.prog 9 MapN.elem b 40 (MapN.mapOf L)
theorem Ov.call {w w':World} {B:Nat} {v:Value} {Bs:List Nat} {Ls:List (List Pl.Nd)} (h:Ov w B v Bs Ls) (b:Below w.heap.size w w'):Ov w' B v Bs Ls:=
 ⟨zh6 h.row b,h.len,fun j c L h1 h2=>⟨(h.maps j c L h1 h2).1,zq0.zf9 (h.maps j c L h1 h2).2 b⟩⟩
theorem map_not {w:World} {B b n m:Nat} {T:TypeId} {v:Value} {xs:List Value} {D:DataW Unit} (h:w.ownsRow B T 1 v n xs) (hm:w.ownsMap Tryz.prog 9 MapN.elem b m D):some b≠v.ownBlock:=fun e=>by
 obtain ⟨es,clock,h1,_⟩:=hm
 rcases h.2 with ⟨rfl,_⟩|⟨g,cap,cur,rfl,_,hg,_⟩
 ·cases e
 ·cases e
  rw [hg] at h1;cases h1
theorem Ov.put {w w':World} {B b:Nat} {v v':Value} {Bs:List Nat} {Ls:List (List Pl.Nd)} {L:List Pl.Nd} (h:Ov w B v Bs Ls) (hm:w.ownsMap Tryz.prog 9 MapN.elem b 40 (MapN.mapOf L)) (hb:B≤b)
  (hr:w'.ownsRow B 223 1 v' (Bs.length+1) (Bs.map layV++[layV b])) (hg:w.grownBy w' v.ownBlock):Ov w' B v' (Bs++[b]) (Ls++[L]):=by
 refine ⟨by simpa using hr,by simp [h.len],fun j c M h1 h2=>?_⟩;by_cases e:j<Bs.length
 ·rw [List.getElem?_append_left e] at h1;rw [List.getElem?_append_left (by rw [←h.len];exact e)] at h2;obtain ⟨h3,h4⟩:=h.maps j c M h1 h2;exact ⟨h3,h4.kept hg (map_not h.row h4)⟩
 ·rw [List.getElem?_append_right (by omega)] at h1;rw [List.getElem?_append_right (by rw [←h.len];omega)] at h2
  have e0:j - Bs.length=0:=by
   have :=(List.getElem?_eq_some_iff.1 h1).1;simp at this;omega
  rw [e0] at h1;rw [←h.len,e0] at h2;simp at h1 h2
  subst h1 h2;exact ⟨hb,hm.kept hg (map_not h.row hm)⟩
theorem infoL:(Tryz.prog.info? 223).map (fun i=>(i.zero,i.size,i.bytes))=some (some .nilIface,1,16):=by kernel_rfl
end WOverI
end
section
open Go.RowKit Go.Maps
namespace WWk
open zi3
structure Ot (w0 W:World) (B d:Nat) (K:Pl.Fx) (v:Value) (j:Nat) (vs:List Value) (bl bh:Nat→Nat):Prop where
 row:W.ownsRow w0.heap.size 223 1 v j vs
 len:vs.length=j
 kids:∀i L k u,i<j→Pl.kid K i=some (L,k)→vs[i]? =some u→Wk B d L k [] u (bl i) (bh i) W
 band:∀i,i<j→w0.heap.size≤bl i∧bl i≤bh i∧bh i≤W.heap.size
 far:∀i g,i<j→v.ownBlock=some g→g<bl i∨bh i≤g
 apart:∀i i',i<i'→i'<j→bh i≤bl i'
theorem Ot.call {w0 W W':World} {B d:Nat} {K:Pl.Fx} {v:Value} {j:Nat} {vs:List Value} {bl bh:Nat→Nat} (h:Ot w0 W B d K v j vs bl bh) (hB:B≤w0.heap.size) (hs:w0.heap.size≤W.heap.size) (b:Below W.heap.size W W'):Ot w0 W' B d K v j vs bl bh:=
 ⟨WOverI.zh6 h.row b,h.len,fun i L k u hi hk hu=>zz5 (h.kids i L k u hi hk hu) (h.band i hi).2.2 (by omega) b,fun i hi=>⟨(h.band i hi).1,(h.band i hi).2.1,Nat.le_trans (h.band i hi).2.2 b.size⟩,h.far,h.apart⟩
theorem Ot.put {w0 W1 W2 W3 W4:World} {B d:Nat} {K:Pl.Fx} {v v' u:Value} {j:Nat} {vs:List Value} {bl bh:Nat→Nat} {L:List Pl.Nd} {k:Pl.Fx} (h:Ot w0 W1 B d K v j vs bl bh) (hB:B≤w0.heap.size) (hs:w0.heap.size≤W1.heap.size) (hk:Pl.kid K j=some (L,k)) (b:Below W1.heap.size W1 W2) (hw:Wk B d L k [] u W1.heap.size W2.heap.size W2) (b2:Below W2.heap.size W2 W3)
  (own:W4.ownsRow w0.heap.size 223 1 v' (j+1) (vs++[u])) (g:W3.grownBy W4 v.ownBlock) (f:∀c,v'.ownBlock=some c→v.ownBlock=some c∨W3.heap.size≤c):Ot w0 W4 B d K v' (j+1) (vs++[u]) (fun i=>if i=j then W1.heap.size else bl i) (fun i=>if i=j then W2.heap.size else bh i):=by
 have s12:=b.size;have s23:=b2.size;have s34:=g.size;have hrow:=h.row.lt
 have ne:∀i,i<j→∀c,c<W3.heap.size→(c<B∨(bl i≤c∧c<bh i))→W4.heap[c]? =W3.heap[c]?:=fun i hi c hc hh=>g.block c hc (fun e=>by
  have h1:=h.far i c hi e.symm;have h2:=hrow c e.symm
  omega)
 refine ⟨own,by simp [h.len],fun i L' k' u' hi hk' hu'=>?_,fun i hi=>?_,fun i c hi hc=>?_,fun i i' h1 h2=>?_⟩
 ·by_cases e:i=j
  ·subst e;simp only [if_true];rw [hk] at hk';cases hk'
   rw [List.getElem?_append_right (by rw [h.len];exact Nat.le_refl _),h.len,Nat.sub_self] at hu';cases hu'
   have h3:=zz5 hw (Nat.le_refl _) (by omega) b2;exact zt5 B d L k [] u _ _ W3 W4 (by omega) (by omega) h3 ⟨g.size,fun c hc hh=>g.block c hc (fun e=>by have h2:=hrow c e.symm;omega)⟩
  ·simp only [if_neg e];have hi':i<j:=by omega
   rw [List.getElem?_append_left (by rw [h.len];exact hi')] at hu';have hb:=h.band i hi';have h3:=zz5 (zz5 (h.kids i L' k' u' hi' hk' hu') hb.2.2 (by omega) b) (by omega) (by omega) b2;exact zt5 B d L' k' [] u' _ _ W3 W4 (by omega) (by omega) h3 ⟨g.size,fun c hc hh=>ne i hi' c hc hh⟩
 ·by_cases e:i=j
  ·simp only [if_pos e];omega
  ·simp only [if_neg e];have hb:=h.band i (by omega);omega
 ·by_cases e:i=j
  ·simp only [if_pos e]
   rcases f c hc with h1|h1
   ·have h2:=hrow c h1;omega
   ·omega
  ·simp only [if_neg e];have hb:=h.band i (by omega)
   rcases f c hc with h1|h1
   ·exact h.far i c (by omega) h1
   ·omega
 ·by_cases e:i'=j
  ·have hb:=h.band i (by omega);simp only [if_pos e,if_neg (show i≠j by omega)];omega
  ·simp only [if_neg e,if_neg (show i≠j by omega)];exact h.apart i i' h1 (by omega)
theorem root_have {n i:Nat} (h:(Pl.ze9 n).have'[i]? =some true):i<n:=by
 have h4:i<4:=by
  have :=(List.getElem?_eq_some_iff.1 h).1
  simpa [Pl.ze9,Pl.partsR] using this
 obtain rfl |rfl |rfl |rfl:i=0∨i=1∨i=2∨i=3:=by omega
 all_goals simpa [Pl.ze9,Pl.partsR] using h
theorem Ot.shape {w0 W:World} {B d:Nat} {K:Pl.Fx} {v:Value} {j:Nat} {vs:List Value} {bl bh:Nat→Nat} (h:Ot w0 W B d K v j vs bl bh) (hj:j≠0):∃g cap,v= .slice (some ⟨g,0,none⟩) j cap:=by
 rcases h.row.2 with ⟨-,h0⟩|⟨g,cap,cur,rfl, -⟩
 ·exact absurd h0 hj
 ·exact ⟨g,cap,rfl⟩
theorem Ot.co {w0 W W':World} {B d p x cap g:Nat} {K:Pl.Fx} {vs:List Value} {bl bh:Nat→Nat} (h:Ot w0 W B d K (.slice (some ⟨g,0,none⟩) K.len cap) K.len vs bl bh) (hB:B≤w0.heap.size) (hs:w0.heap.size≤W.heap.size) (b:Below W.heap.size W W') (hx:W.heap.size≤x) (hxp:x<p) (hp:p<W'.heap.size) (kx:Mem.Blk W' x #[.slice (some ⟨g,0,none⟩) K.len cap] 244)
  (kp:Mem.Blk W' p (zl x::(Pl.ze9 K.len).have'.map Value.bool).toArray 254):
  Co (fun i W=>∀L' k',Pl.kid K i=some (L',k')→Wk B d L' k' [] ((fun i=>vs.getD i undef) i) (bl i) (bh i) W) B w0.heap.size W'.heap.size p x g K.len cap (fun i=>vs.getD i undef) bl bh (Pl.ze9 K.len).have' W':=by
 have sb:=b.size;have hg:=h.row.lt g rfl;have hc:=h.call hB hs b
 have hget:∀i,i<K.len→vs[i]? =some (vs.getD i undef):=fun i hi=>by
  rw [List.getD,List.getElem?_eq_getElem (by rw [h.len];exact hi)];rfl
 refine ⟨⟨hB,⟨by omega,by omega⟩,⟨hg.1,by omega⟩,Nat.le_refl _,kx,fun i hi=>?_,fun i hi=>⟨(h.band i hi).1,(h.band i hi).2.1,by have :=(h.band i hi).2.2;omega⟩,fun i hi=> .inr (by have :=(h.band i hi).2.2;omega),fun i hi=>h.far i g hi rfl,fun i j hi hj hne=>?_⟩,⟨by omega,hp⟩,by omega,by omega,fun i hi=> .inr (by have :=(h.band i hi).2.2;omega),kp,fun i hi=>?_⟩
 ·have :=hc.row.cells (g:=g) rfl i _ (hget i hi);have e:(⟨g,0,none⟩:Addr).add i=⟨g,i,none⟩:=by simp [Addr.add];omega
  rw [e] at this;exact this
 ·by_cases e:i<j
  ·exact .inl (h.apart i j e hj)
  ·exact .inr (h.apart j i (by omega) hi)
 ·have hi':=root_have hi;exact ⟨hi',fun L' k' hk'=>hc.kids i L' k' _ hi' hk' (hget i hi')⟩
theorem wk_iface {B d:Nat} {L:List Pl.Nd} {k:Pl.Fx} {ps:List ByteArray} {u:Value} {lo hi:Nat} {W:World} (h:Wk B d L k ps u lo hi W):∃T x,u= .iface T x:=by
 cases d with
 |zero=>obtain ⟨q, -,rfl, -⟩:=h;exact ⟨_,_,rfl⟩
 |succ d=>
  simp only [Wk] at h
  split at h
  ·obtain ⟨q, -,rfl, -⟩:=h;exact ⟨_,_,rfl⟩
  ·obtain ⟨p,x,g,cap,vs,bl,bh,rfl, -⟩:=h;exact ⟨_,_,rfl⟩
theorem of_any (B:Nat):∀ (d:Nat) (K:Pl.Fx) (L:List Pl.Nd) (q:Nat) (m:Int) (v:Value) (w:World),K.shape.depth≤d→K.len≤4→K.okX→B≤w.heap.size→q<B→Mem.ownM w q L→Mem.layX w (fun b=>b<B) K v→
  Calls Tryz.prog 119 #[.agg #[.map (some q), .int .i64 m,v]] w fun e w'=>∃u,e= .returned u∧Wk B d L K [] u w.heap.size w'.heap.size w'∧Below w.heap.size w w':=by
 obtain ⟨i0,hi,hz0,hz1,hz2⟩:=info_parts WOverI.infoL
 have base:∀ (L:List Pl.Nd) (q:Nat) (m:Int) (a:Option Addr) (cap:Nat) (w:World),q<B→Mem.ownM w q L→Calls Tryz.prog 119 #[.agg #[.map (some q), .int .i64 m, .slice a 0 cap]] w fun e w'=>e= .returned (.iface 130 (.map (some q)))∧Mem.ownM w' q L∧Below w.heap.size w w':=by
  intro L q m a cap w hqB hm;have b0:Below w.heap.size w (w.alloc (.cells #[.map (some q), .int .i64 m, .slice a 0 cap] 135)):=bE0;have A0:=Mem.Blk.new w #[.map (some q), .int .i64 m, .slice a 0 cap] 135;have hlf:=hide (zh4.yc8 .nil (some q) m a cap);simp only [Pl.Fo.len] at hlf;have HM:=hide (hm.call b0);clear hm;go_enter Tryz.func119,Tryz.ntmps119
  go_wp2_with fail
  generalize w.alloc (.cells #[.map (some q), .int .i64 m, .slice a 0 cap] 135)=w2 at b0 A0 HM ⊢;refine (za hlf _).mono ?_;rintro e w1 ⟨rfl,b1⟩;have bb:=b0.trans (b1.mono b0.size);have A1:=A0.call b1;have M1:=hide ((za HM).call b1);have c0:=A1.cell 0;simp only [kGs] at c0;clear hlf A0 A1 HM b0 b1;go_wp2
  go_ret
  exact ⟨rfl,za M1,bb⟩
 intro d
 induction d with
 |zero=>
  intro K L q m v w hd h4 hx hB hq hm hl;obtain ⟨a,cap,rfl, -⟩:=hl;cases K with
  |nil=>
   refine (base L q m a cap w hq hm).mono ?_;rintro e w' ⟨rfl,h1,h2⟩;exact ⟨_,rfl,⟨q,hq,rfl,h1⟩,h2⟩
  |cons L' k' m'=>simp only [Pl.Fx.shape,Pl.Fo.depth] at hd;omega
 |succ d ih=>
  intro K L q m v w hd h4 hx hB hq hm hl;obtain ⟨a,cap,rfl,hrow⟩:=hl;by_cases hK0:K.len=0
  ·have e:=Pl.Fx.zt6 hK0;subst e;refine (base L q m a cap w hq hm).mono ?_;rintro e w' ⟨rfl,h1,h2⟩;refine ⟨_,rfl,?_,h2⟩;simp only [Wk];rw [if_pos (show Pl.Fx.nil.len=0 from rfl)];exact ⟨q,hq,rfl,h1⟩
  rcases hrow with h|⟨g,rfl, -,hrow⟩
  ·rw [h] at hK0;exact absurd rfl hK0
  have b0:Below w.heap.size w (w.alloc (.cells #[.map (some q), .int .i64 m, .slice (some ⟨g,0,none⟩) K.len cap] 135)):=bE0;have A0:=Mem.Blk.new w #[.map (some q), .int .i64 m, .slice (some ⟨g,0,none⟩) K.len cap] 135;have HI:=hide (fun k1 L1 q1 m1 v1 W1 (h1:k1.shape.depth≤d)=>ih k1 L1 q1 m1 v1 W1 h1);have HRW:=hide (Mem.zw0 hrow b0);have hlf:=hide (zh4.yc8 K.shape (some q) m (some ⟨g,0,none⟩) cap);rw [Pl.Fx.zv1,show decide (K.len=0)=false from decide_eq_false hK0] at hlf;have HKX:=hide hx;have HDD:Hid (∀i L' k',Pl.kid K i=some (L',k')→k'.shape.depth≤d):=hide fun i L' k' hk'=>by have :=Pl.ye8 hk';omega
  clear ih hrow base hx hm hd;go_enter Tryz.func119,Tryz.ntmps119
  go_wp2_with fail
  generalize w.alloc (.cells #[.map (some q), .int .i64 m, .slice (some ⟨g,0,none⟩) K.len cap] 135)=w2 at b0 A0 HRW ⊢;refine (za hlf _).mono ?_;rintro e w1 ⟨rfl,b1⟩;have bb:=b0.trans (b1.mono b0.size);have c02:=(A0.call b1).cell 1;have c03:=(A0.call b1).cell 2;simp only [kGs] at c02 c03;have RW:Hid (Mem.rowX w1 (fun b=>b<B) K g (0*3)):=hide (by simpa using Mem.zw0 (za HRW) b1);have OT0:Hid (Ot w w1 B d K (.slice none 0 0) 0 [] (fun _=>0) (fun _=>0)):=hide ⟨⟨by rfl, .inl ⟨rfl,rfl⟩⟩,rfl,fun i L k u h=>absurd h (Nat.not_lt_zero _),fun i h=>absurd h (Nat.not_lt_zero _),fun i g h=>absurd h (Nat.not_lt_zero _),fun i i' _ h=>absurd h (Nat.not_lt_zero _)⟩;clear b0 b1 hlf A0 HRW;go_wp2
  go_loopw [3,15] (fun v i wr=>∃ (j:Nat) (vs:List Value) (bl bh:Nat→Nat) (F:Pl.Fx),i= .int .i64 (j:Int)∧j+F.len=K.len∧Below w.heap.size w wr∧Hid (Ot w wr B d K v j vs bl bh)∧Hid (Mem.rowX wr (fun b=>b<B) F g (j*3))∧Hid (∀i,Pl.kid K (j+i)=Pl.kid F i)) (fun _ i _=>K.len - (intOf i).toNat)
  case atStart=>exact ⟨0,[],_,_,K,rfl,by omega,bb,OT0,RW,fun i=>by rw [Nat.zero_add]⟩
  case round=>
   obtain ⟨j,vs,bl,bh,F,rfl,hj,hbel,OT,HR,HF⟩:=hrel;clear RW bb c02 c03 OT0;cases F with
   |nil=>
    simp only [Pl.Fx.len] at hj;have u1:¬ (j:Int)<(K.len:Int):=by omega
    obtain rfl:j=K.len:=by omega
    have hOT:=za OT;obtain ⟨g',cap',hv⟩:=hOT.shape hK0;subst hv;have HRO:=hide (fun W=>root_any (some ⟨g',0,none⟩) K.len cap' W h4);have ER:Hid (∃r0 r1 r2 r3,(Pl.ze9 K.len).cs.toArray=#[.bool false, .string ⟨#[]⟩, .int .i64 0, .string ⟨#[]⟩, .int .i64 0, .int .i64 0, .bool r0, .bool r1, .bool r2, .bool r3]∧(Pl.ze9 K.len).have'.map Value.bool=[.bool r0, .bool r1, .bool r2, .bool r3]):=hide ⟨_,_,_,_,rfl,rfl⟩;obtain ⟨r0,r1,r2,r3,er1,er2⟩:=za ER;rw [er1] at HRO;have KOT:=hide hOT;have HER:=hide er2;clear OT HR HF hOT er1 er2 ER HI;go_wp2_with fail
    refine (dec_make (some ⟨g',0,none⟩) K.len cap' wr).mono ?_;rintro e w3 ⟨rfl,rfl⟩;have b3:Below wr.heap.size wr (wr.alloc (.cells #[.slice (some ⟨g',0,none⟩) K.len cap'] 244)):=bE0;have k3:=Mem.Blk.new wr #[.slice (some ⟨g',0,none⟩) K.len cap'] 244;go_wp2_with fail
    generalize wr.alloc (.cells #[.slice (some ⟨g',0,none⟩) K.len cap'] 244)=w3 at b3 k3 ⊢;refine (za HRO w3).mono ?_;rintro e w4 ⟨rfl,b4⟩;have k4:=hide (k3.call b4);have bb4:=hide (b3.trans (b4.mono b3.size));have lx:=hide (Nat.lt_of_lt_of_le k3.lt b4.size);have bA:=hide ((Below.refl w4.heap.size w4).alloc (Nat.le_refl _) (.cells #[zl wr.heap.size, .bool r0, .bool r1, .bool r2, .bool r3] 254));have hfd:=fun W=>(by kernel_rfl:(Instr.field 251 (.agg #[.bool false, .string ⟨#[]⟩, .int .i64 0, .string ⟨#[]⟩, .int .i64 0, .int .i64 0, .bool r0, .bool r1, .bool r2, .bool r3]) 2).run Tryz.prog W= .ok (.agg #[.bool r0, .bool r1, .bool r2, .bool r3]) W);clear b3 k3 b4 HRO;go_wp2
    go_ret
    refine ⟨_,rfl,?_,?_⟩
    ·simp only [Wk];rw [if_neg hK0];exact ⟨w4.heap.size,wr.heap.size,g',cap',_,bl,bh,rfl,(za KOT).co hB hbel.size ((za bb4).trans ((za bA).mono (za bb4).size)) (Nat.le_refl _) (za lx) (by simp) ((za k4).call (za bA)) (by rw [za HER];exact Mem.Blk.new _ _ _)⟩
    ·exact hbel.trans (((za bb4).trans ((za bA).mono (za bb4).size)).mono hbel.size)
   |cons L1 k1 m1=>
    simp only [Pl.Fx.len] at hj;obtain ⟨⟨q1,a1,cap1,c0,c1,c2,hg,hNg,hNq,hm1,hsub⟩,hrest⟩:=za HR;have hk1:Pl.kid K j=some (L1,k1):=by have :=za HF 0;exact this
    obtain ⟨g1,g2,g3,g4⟩:=Pl.kid_ok (za HKX) hk1;have hdp:=za HDD j L1 k1 hk1;have u1:(j:Int)<(K.len:Int):=by omega
    have u3:(0:Int)≤(j:Int):=by omega
    have bA:Below wr.heap.size wr (wr.alloc (.cells #[.map (some q1), .int .i64 (k1.len:Int), .slice a1 k1.len cap1] 135)):=bE0;have HL:Mem.layX wr (fun b=>b<B) k1 (.slice a1 k1.len cap1):=⟨a1,cap1,rfl,hsub⟩;have bw:=hbel.trans (bA.mono hbel.size);have hsw:=hbel.size;have hcall:=hide (za HI k1 L1 q1 (k1.len:Int) _ _ hdp g3 g4 (Nat.le_trans hB (Nat.le_trans hsw bA.size)) hNq (hm1.call bA) (Mem.zo1 HL bA));have HRR:=hide (Mem.zw0 hrest bA);have OA:=hide ((za OT).call hB hsw bA);have HK1:=hide hk1;clear hsub hrest HL HR OT g1 g2 g4 hm1 hk1 hdp;go_wp2_with fail
    generalize wr.alloc (.cells #[.map (some q1), .int .i64 (k1.len:Int), .slice a1 k1.len cap1] 135)=wr2 at bA bw hcall HRR OA ⊢;refine (za hcall).mono ?_;rintro e wX ⟨u,rfl,hw,bX⟩;obtain ⟨uT,ux,rfl⟩:=wk_iface hw;have bw2:=bw.trans (bX.mono bw.size);have HWU:=hide hw;have hsx:=bw.size;clear hcall hw;have bA2:Below wX.heap.size wX (wX.alloc (.cells #[.iface uT ux] 223)):=bE0;have HP:=hide (fun v' w4 h1 h2 h3=>(za OA).put (v':=v') (W4:=w4) hB hsx (za HK1) bX (za HWU) bA2 h1 h2 h3);have HRO:=hide (((za OA).call hB hsx bX).call hB (Nat.le_trans hsx bX.size) bA2).row;have bw3:=bw2.trans (bA2.mono bw2.size);have HRL:=(za OA).row.lt;have HQ:=hide (fun w4 (h2:(wX.alloc (.cells #[.iface uT ux] 223)).grownBy w4 _)=>bw3.grown h2 bw3.size (fun k hk=>(HRL k hk).1))
    have HGR:=hide (fun w4 (h2:(wX.alloc (.cells #[.iface uT ux] 223)).grownBy w4 _)=>(Mem.zy3 (fun b hb hlt=>⟨hb,Nat.lt_of_lt_of_le hlt h2.size,h2.block b hlt (fun e=>by have :=(HRL b e.symm).1;omega)⟩) _ _ _ (Mem.zw0 (Mem.zw0 (za HRR) bX) bA2):Mem.rowX w4 (fun b=>b<B) m1 g (j*3+3)));have HSB:=hide (show w.heap.size≤(wX.alloc (.cells #[.iface uT ux] 223)).heap.size from bw3.size);have hj4:j≤4:=by omega
    have HF2:Hid (∀i,Pl.kid K (j+1+i)=Pl.kid m1 i):=hide fun i=>by have :=za HF (i+1);rw [show j+(i+1)=j+1+i by omega] at this;exact this
    clear bA bA2 bX bw bw2 bw3 HRR OA HWU HRL HF;go_wp2_with (at_builtin;refine Mem.zi9 _ rfl _ _ 244 rfl w.heap.size 223 i0 .nilIface 1 16 Tryz.underlying244 hi hz0 hz1 hz2 rfl (by decide) _ _ _ rfl (za HRO) ⟨wX.heap.size,0,none⟩ 1 1 [.iface uT ux] rfl rfl (Mem.ze6 _ _ _) (fun u' hu=>by simp at hu;subst hu;rfl) (by unfold maxLen;omega) (by omega) (za HSB) ?_)
    intro v' w4 own' hgrow hfar;have OV2:=hide (za HP v' w4 own' hgrow (fun c hc=>(hfar c hc).imp_right (fun h=>by simpa using h)));have bw4:=za HQ w4 hgrow;have HR3:=hide (za HGR w4 hgrow);rw [show j*3+3=(j+1)*3 by omega] at HR3;clear HP HRO HQ HGR own' hgrow HSB hfar;go_wp2
    go_roundw
    case rel=>exact ⟨j+1,_,_,_,m1,by go_num,by omega,bw4,OV2,HR3,HF2⟩
    case measure=>simp [intOf];omega
end WWk
end
section
open Go.RowKit Go.Shelf
attribute [local go_sem] Oper.semAt_some
namespace zp5
def KF (N:Nat) (W W':World):Prop:=W.heap.size≤W'.heap.size∧∀ (j:Nat) (o:Obj),N≤j→W.heap[j]? =some o→o.isCells=true→W'.heap[j]? =some o
theorem KF.trans {N:Nat} {A B C:World} (h1:KF N A B) (h2:KF N B C):KF N A C:=⟨Nat.le_trans h1.1 h2.1,fun j o hj ho hc=>h2.2 j o hj (h1.2 j o hj ho hc) hc⟩
theorem KF.put {N l:Nat} (W:World) (o o':Obj) (hl:W.heap[l]? =some o) (ho:o.isCells=false):KF N W (W.putObj l o'):=by
 refine ⟨by simp,fun j p _ hp hc=>?_⟩;have hne:j≠l:=fun e=>by rw [e,hl] at hp;cases hp;rw [ho] at hc;cases hc
 exact (World.putObj_heap_other hne).trans hp
theorem row_keptF {N:Nat} {W W':World} {B T n:Nat} {v:Value} {xs:List Value} (h:W.ownsRow B T 1 v n xs) (k:KF N W W') (hX:N≤B):W'.ownsRow B T 1 v n xs:=by
 refine ⟨h.1,?_⟩
 rcases h.2 with h0|⟨g,cap,cur,hv,hb,hg,rest⟩
 ·exact .inl h0
 ·exact .inr ⟨g,cap,cur,hv,hb,k.2 g _ (by omega) hg rfl,rest⟩
abbrev WayX (L:List ByteArray):={ x:ByteArray // x∈Pl.ways L L.length }
theorem wayX_mem {L:List ByteArray} {k:Nat} (h:k<L.length):Pl.glue (L.take (k+1))∈Pl.ways L L.length:=List.mem_map.2 ⟨k,List.mem_range.2 h,rfl⟩
theorem iter_waysX (L:List ByteArray) (n:Nat) (X:Nat) (q:Addr) (p:ByteArray) (w:World) (hX:X≤w.heap.size) (hq:w.cell? q=some (.string p)) (hql:q.block<w.heap.size) (hp:p.size≤1048576) (hLp:Pl.za6 p=L):
  SeqStopsK Fence.wide n Tryz.prog 144 #[.pointer (some q)] (fun x:WayX (L)=>#[Value.string x.1]) (KF X) (fun xs=>xs.map Subtype.val=Pl.ways (L) (L).length) (fun xs=>∃k,k<L.length∧xs.map Subtype.val=Pl.ways L (k+1)) (L).length w:=fun l J Jx W hW hJ _ hY h0=>by
 have hq1:W.cell? q=some (.string p):=(hW.cell hql).trans hq;have hXW:X≤W.heap.size:=Nat.le_trans hX hW.size;have HN:=hide (zu6.any p W hp);generalize Pl.za0 p=rr at HN;have hl6:L.length≤6:=by rw [←hLp];exact (Pl.ze p).2
 have HGL:Hid (∀k,(Pl.glue ((L).take k)).size≤1000000):=fun k=>Pl.zp9 (fun t ht=>(Pl.ze p).1 t (by rw [hLp];exact List.mem_of_mem_take ht)) (by have :=(Pl.ze p).2;rw [hLp] at this;simp;omega);rw [hLp] at HN;refine callsIn_of_wp Tryz.func144 rfl trivial ?_ rfl;simp only [Tryz.ntmps144,List.size_toArray,List.length_cons,List.length_nil,Nat.reduceAdd,Nat.reduceSub,Array.replicate_succ,Array.replicate_zero,List.push_toArray,List.append_toArray,List.nil_append,List.cons_append]
 gi_wp2_with fail
 refine ⟨trivial,fun h=>(by cases h),?_⟩;refine (callsIn_wide.2 (za HN)).mono ?_;rintro e w1 ⟨v,rfl,own,b1⟩;obtain ⟨a,cap,rfl⟩:=Mem.zf1 own;have hJ1:Hid (∃pre:List (WayX L),pre.map Subtype.val=Pl.ways L 0∧J pre w1):=⟨[],rfl,hJ [] W w1 none h0 (Mem.za4 b1 none) (fun r e=>by cases e)⟩;have OW:=hide own;have HY:=hide hY;clear HN own b1 h0 hY
 gi_wp2_with fail
 gi_loopw [13] (fun i wr=>∃k:Nat,k≤L.length∧i= .int .i64 k∧Hid (∃pre:List (WayX L),pre.map Subtype.val=Pl.ways L k∧J pre wr)∧Hid (wr.ownsRow W.heap.size 9 1 (.slice a L.length cap) L.length (L.map Value.string)))
  (fun i _=>L.length - (intOf i).toNat)
 case atStart=>exact ⟨0,Nat.zero_le _,rfl,hJ1,OW⟩
 case round=>
  obtain ⟨k,hk,rfl,HJ,HO⟩:=hrel;clear hJ1 OW;by_cases hlt:k<L.length
  ·have y1:(k:Int)<(L.length:Int):=by omega
   have hT:=Mem.texts_take (Mem.zd7 (za HO)) (k+1) (by omega) (by omega);have HP:=hide (zk3.any (.slice a (k+1) cap) (L.take (k+1)) wr (by simp;omega) (za HGL (k+1)) hT);have hcap:=Mem.own_cap (za HO);have hw1:IntKind.i64.wrap ((k:Int)+1)=(k:Int)+1:=by simp only [IntKind.wrap_i64];omega
   clear hT
   gi_wp2_with fail
   refine ⟨trivial,fun h=>(by cases h),?_⟩;refine (callsIn_wide.2 (za HP)).mono ?_;rintro e w2 ⟨rfl,b2⟩;obtain ⟨pre,hpre,hJp⟩:=za HJ;have HJ2:J pre w2:=hJ _ wr w2 none hJp (Mem.za4 b2 none) (fun r e=>by cases e);have HO2:=hide (Mem.zd0 (za HO) b2);obtain ⟨fn,tmps,assign,body,hy,hR⟩:=za HY pre ⟨Pl.glue (L.take (k+1)),wayX_mem hlt⟩ w2 HJ2 (by have :=congrArg List.length hpre;rw [Pl.zm7,List.length_map] at this;omega);have HWS:Hid ((pre++[(⟨Pl.glue (L.take (k+1)),wayX_mem hlt⟩:WayX L)]).map Subtype.val=Pl.ways L (k+1)):=by rw [List.map_append,hpre,Pl.yg];exact rfl
   dsimp only at hy
   clear HP HJ HO HJ2 b2 hpre hJp
   gi_wp2
   refine ⟨fun h=>(by cases h),?_⟩;refine hR.mono ?_;rintro e W3 (⟨rfl,hJ3,hk3⟩|⟨rfl,hJx3⟩)
   ·have HJ3:Hid (∃pre:List (WayX L),pre.map Subtype.val=Pl.ways L (k+1)∧J pre W3):=⟨_,za HWS,hJ3⟩;have HO3:=hide (row_keptF (za HO2) hk3 hXW);clear hJ3 hk3 HO2 hR hy HWS
    gi_wp2
    go_roundw
    case rel=>exact ⟨k+1,by omega,by go_num,HJ3,HO3⟩
    case measure=>simp [intOf];omega
   ·gi_wp2
    refine bodyPost_ret (results_none rfl _ _ _) rfl ?_;exact ⟨⟨_,rfl⟩, .inr ⟨_,⟨k,hlt,za HWS⟩,hJx3⟩⟩
  ·obtain rfl:k=L.length:=by omega
   have y1:¬ ((L.length:Int)<(L.length:Int)):=by omega
   gi_wp2
   go_end0
   exact ⟨⟨_,rfl⟩, .inl (za HJ)⟩
end zp5
end
end Go.Proofs.YtbomeifgfalmdaaGreatDoor
