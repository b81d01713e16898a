/- Several texts of one claim in one file: MemWk2, Merge. -/
import Derived.Test.YtpggbphcbcogdaaGreatDoorG07
import Derived.Test.YtpggbphcbcogdaaGreatDoorWWkD
namespace Go.Proofs.YtpggbphcbcogdaaGreatDoor
section
open Go.RowKit Go.Maps
namespace Pl
theorem go_told:∀ (ns:List (Option Nd)) (k:Nat) (s:Sg),s.told=true→(goD k s ns).told=true:=by
 intro ns
 induction ns with
 |nil=>intro k s h;exact h
 |cons y ns ih=>
  intro k s h;cases y with
  |none=>exact ih _ _ h
  |some n=>
   rw [goD]
   split
   ·rfl
   ·exact ih _ _ rfl
theorem go_untold:∀ (ns:List (Option Nd)) (k:Nat) (s:Sg),(goD k s ns).told=false→goD k s ns=s:=by
 intro ns
 induction ns with
 |nil=>intro k s _;rfl
 |cons y ns ih=>
  intro k s h;cases y with
  |none=>exact ih _ _ h
  |some n=>
   exfalso;rw [goD] at h
   split at h
   ·cases h
   ·rw [go_told ns (k+1) (zc2 s k n) rfl] at h;cases h
theorem dec_untold {ns:List (Option Nd)} (h:(decS ns).told=false):decS ns=Sg.zero:=by
 unfold decS at h ⊢;by_cases ht:(goD 0 Sg.zero ns).told=false
 ·rw [go_untold _ _ _ ht];exact up_zero
 ·unfold upS at h ⊢
  split
  ·rfl
  ·next hn=>rw [if_neg hn] at h;exact absurd h ht
theorem tell_val (ns:List (Option Nd)):((zj1 (decS ns)).getD za3)=(decS ns).node∧(zj1 (decS ns)).isSome=(decS ns).told:=by
 unfold zj1;cases h:(decS ns).told
 ·rw [dec_untold h];exact ⟨rfl,rfl⟩
 ·exact ⟨rfl,rfl⟩
end Pl
namespace WWk
structure Co (P:Nat→World→Prop) (B lo hi p x g n cap:Nat) (vs:Nat→Value) (bl bh:Nat→Nat) (hv:List Bool) (W:World):Prop where
 lv:Lv W B lo hi x g n cap vs bl bh
 pin:lo≤p∧p<hi
 px:p≠x
 pg:p≠g
 farP:∀i,i<n→p<bl i∨bh i≤p
 blk:Mem.Blk W p (zg8 x::hv.map Value.bool).toArray 142
 kids:∀i:Nat,hv[i]? =some true→i<n∧P i W
def Lf (B:Nat) (L:List Pl.Nd) (v:Value) (W:World):Prop:=∃q,q<B∧v= .iface 57 (.map (some q))∧Mem.ownM W q L
def Wk (B:Nat):Nat→List Pl.Nd→Pl.Fx→List ByteArray→Value→Nat→Nat→World→Prop
 |0,L,_,_,v,_,_,W=>Lf B L v W
 |d+1,L,k,ps,v,lo,hi,W=>if k.len=0 then Lf B L v W else ∃p x g cap vs bl bh,v=walkV p∧Co (fun i W=>∀L' k',Pl.kid k i=some (L',k')→Wk B d L' k' ps (vs i) (bl i) (bh i) W) B lo hi p x g k.len cap vs bl bh (Pl.zd6 (Pl.fnsH k) (Pl.zd2 k.len) (Pl.hist ps)).have' W
theorem Co.same {P:Nat→World→Prop} {B lo hi p x g n cap:Nat} {vs:Nat→Value} {bl bh:Nat→Nat} {hv:List Bool} {W W':World} (h:Co P B lo hi p x g n cap vs bl bh hv W) (hP:∀i,i<n→Local B (bl i) (bh i) (P i)) (s:Same B lo hi W W'):Co P B lo hi p x g n cap vs bl bh hv W':=by
 have hsz:=h.lv.size;have hB:=h.lv.base;have e:∀b,lo≤b→b<hi→W'.heap[b]? =W.heap[b]?:=fun b h1 h2=>s.block b (by omega) (.inr ⟨h1,h2⟩);refine ⟨h.lv.keep s.size (e x h.lv.xin.1 h.lv.xin.2) (e g h.lv.gin.1 h.lv.gin.2),h.pin,h.px,h.pg,h.farP,(e p h.pin.1 h.pin.2).trans h.blk,fun i hi=>?_⟩;obtain ⟨h1,h2⟩:=h.kids i hi;have hb:=h.lv.band i h1;exact ⟨h1,hP i h1 W W' (by omega) (by omega) h2 ⟨s.size,fun b hb1 hb2=>s.block b hb1 (by omega)⟩⟩
theorem Lf.same {B:Nat} {L:List Pl.Nd} {v:Value} {W W':World} (h:Lf B L v W) (e:∀b,b<B→b<W.heap.size→W'.heap[b]? =W.heap[b]?):Lf B L v W':=by
 obtain ⟨q,h1,h2,h3⟩:=h;exact ⟨q,h1,h2,h3.same (e q h1 h3.lt)⟩
theorem zm3 (B:Nat):∀ (d:Nat) (L:List Pl.Nd) (k:Pl.Fx) (ps:List ByteArray) (v:Value) (lo hi:Nat),Local B lo hi (Wk B d L k ps v lo hi):=by
 intro d
 induction d with
 |zero=>intro L k ps v lo hi W W' _ _ h s;exact Lf.same h (fun b h1 h2=>s.block b h2 (.inl h1))
 |succ d ih=>
  intro L k ps v lo hi W W' h1 h2 h s;simp only [Wk] at h ⊢
  split at h
  ·next hk=>rw [if_pos hk];exact Lf.same h (fun b h1 h2=>s.block b h2 (.inl h1))
  ·next hk=>
   rw [if_neg hk];obtain ⟨p,x,g,cap,vs,bl,bh,rfl,c⟩:=h;exact ⟨p,x,g,cap,vs,bl,bh,rfl,c.same (fun i _ W W' a1 a2 hh ss L' k' e=>ih L' k' ps (vs i) (bl i) (bh i) W W' a1 a2 (hh L' k' e) ss) s⟩
theorem zr5 {B d:Nat} {L:List Pl.Nd} {k:Pl.Fx} {ps:List ByteArray} {v:Value} {lo hi:Nat} {W W':World} (h:Wk B d L k ps v lo hi W) (h1:hi≤W.heap.size) (h2:B≤W.heap.size) (b:Below W.heap.size W W'):Wk B d L k ps v lo hi W':=
 zm3 B d L k ps v lo hi W W' h1 h2 h ⟨b.size,fun i hi _=>b.block i hi⟩
structure Mid (Q:Nat→World→Prop) (B lo hi p x g n cap:Nat) (vs:Nat→Value) (bl bh:Nat→Nat) (cs:Array Value) (hv:List Bool) (W:World):Prop where
 lv:Lv W B lo hi x g n cap vs bl bh
 blk:Mem.Blk W p cs 142
 kids:∀i:Nat,hv[i]? =some true→i<n∧Q i W
theorem Mid.alloc {Q:Nat→World→Prop} {B lo hi p x g n cap:Nat} {vs:Nat→Value} {bl bh:Nat→Nat} {cs:Array Value} {hv:List Bool} {W W':World} (h:Mid Q B lo hi p x g n cap vs bl bh cs hv W) (hQ:∀i,i<n→Local B (bl i) (bh i) (Q i)) (b:Below W.heap.size W W'):Mid Q B lo hi p x g n cap vs bl bh cs hv W':=by
 have hsz:=h.lv.size;have hB:=h.lv.base;have hx:=h.lv.xin;have hg:=h.lv.gin;refine ⟨h.lv.keep b.size (b.block x (by omega)) (b.block g (by omega)),h.blk.call b,fun i hi=>?_⟩;obtain ⟨h1,h2⟩:=h.kids i hi;have hb:=h.lv.band i h1;exact ⟨h1,hQ i h1 W W' (by omega) (by omega) h2 ⟨b.size,fun c hc _=>b.block c hc⟩⟩
theorem Mid.grown {Q:Nat→World→Prop} {B lo hi p x g n cap X:Nat} {vs:Nat→Value} {bl bh:Nat→Nat} {cs:Array Value} {hv:List Bool} {W W':World} (h:Mid Q B lo hi p x g n cap vs bl bh cs hv W) (hQ:∀i,i<n→Local B (bl i) (bh i) (Q i)) (b:W.grownBy W' (some X)) (hX:hi≤X) (hp:p<hi):Mid Q B lo hi p x g n cap vs bl bh cs hv W':=by
 have hsz:=h.lv.size;have hB:=h.lv.base;have hx:=h.lv.xin;have hg:=h.lv.gin;have e:∀c,c<hi→W'.heap[c]? =W.heap[c]?:=fun c hc=>b.block c (by omega) (fun e=>by cases e;omega);refine ⟨h.lv.keep b.size (e x hx.2) (e g hg.2),(e p hp).trans h.blk,fun i hi=>?_⟩;obtain ⟨h1,h2⟩:=h.kids i hi;have hb:=h.lv.band i h1;exact ⟨h1,hQ i h1 W W' (by omega) (by omega) h2 ⟨b.size,fun c hc hh=>e c (by omega)⟩⟩
theorem Mid.co {Q:Nat→World→Prop} {B lo hi p x g n cap:Nat} {vs:Nat→Value} {bl bh:Nat→Nat} {cs cs':Array Value} {hv:List Bool} {W W':World} (h:Mid Q B lo hi p x g n cap vs bl bh cs hv W) (hQ:∀i,i<n→Local B (bl i) (bh i) (Q i)) (hp:lo≤p∧p<hi) (px:p≠x) (pg:p≠g) (fp:∀i,i<n→p<bl i∨bh i≤p)
  (b:W.grownBy W' (some p)) (k:Mem.Blk W' p cs' 142) (e:cs'=(zg8 x::hv.map Value.bool).toArray):Co Q B lo hi p x g n cap vs bl bh hv W':=by
 have hsz:=h.lv.size;have hB:=h.lv.base;have hx:=h.lv.xin;have hg:=h.lv.gin;have e2:∀c,c<hi→c≠p→W'.heap[c]? =W.heap[c]?:=fun c hc hn=>b.block c (by omega) (fun e=>hn (Option.some.inj e));refine ⟨h.lv.keep b.size (e2 x hx.2 (fun e=>px e.symm)) (e2 g hg.2 (fun e=>pg e.symm)),hp,px,pg,fp,by rw [←e];exact k,fun i hi=>?_⟩;obtain ⟨h1,h2⟩:=h.kids i hi;have hb:=h.lv.band i h1;have hf:=fp i h1;exact ⟨h1,hQ i h1 W W' (by omega) (by omega) h2 ⟨b.size,fun c hc hh=>e2 c (by omega) (by omega)⟩⟩
theorem sys_of {P Q:Nat→World→Prop} {B lo hi p x g n cap N:Nat} {vs:Nat→Value} {bl bh:Nat→Nat} {hv:List Bool} {cs:Array Value} {T:TypeId} {q:ByteArray} {f:Nat→Option Pl.Nd} (hiN:hi≤N) (hx:x<hi) (hg:g<hi) (hp:lo≤p∧p<hi) (fp:∀i,i<n→p<bl i∨bh i≤p) (hb:∀i,i<n→lo≤bl i∧bl i≤bh i∧bh i≤hi)
  (hP:∀i,i<n→Local B (bl i) (bh i) (P i)) (hQ:∀i,i<n→Local B (bl i) (bh i) (Q i)) (hA:∀i W,i<n→hi≤W.heap.size→P i W→Ask W (vs i) q (f i) (bl i) (bh i) (Q i)) (hm:∀k m,f k=some m→0≤m.mark∧m.mark≤8):
  Sys N lo hi x g n cap vs hv q f (fun k hh W=>Sv N W B lo hi x g n cap vs bl bh hv P Q k hh∧Mem.Blk W p cs T):=by
 refine ⟨hiN,by omega,by omega,fun k hh W h=>h.1.NW,fun k hh W W' h b=>⟨h.1.call hP hQ b,h.2.call b⟩,fun k hh W W' X h b hX=>⟨h.1.grown hP hQ b hX,h.2.grown b (fun e=>by cases e;omega)⟩,fun k hh W h=>⟨h.1.skip,h.2⟩,fun k hh W h=>by have :=h.1.lv.box.cell 0;simpa using this,fun k hh W h i hi=>h.1.lv.row i hi,?_,hm⟩;intro k s W h hk hh;obtain ⟨T',x',F,r,h1,h2,h3,h4⟩:=hA k W hk (Nat.le_trans hiN h.1.NW) (h.1.todo k (Nat.le_refl _) hk hh);refine ⟨T',x',F,r,h1,h2,h3,h4.mono ?_⟩;rintro e w' ⟨rfl,b,q⟩;have hbb:=hb k hk;have s1:=h.1.ask hP hQ hk b q;have b1:Mem.Blk w' p cs T:=b.blk h.2 (fp k hk);exact ⟨rfl,b.wide hbb.1 hbb.2.2,⟨s1,b1⟩,fun m=>⟨s1.take hk q m,b1⟩⟩
theorem dec_walk {P Q:Nat→World→Prop} {B lo hi p x g n cap:Nat} {vs:Nat→Value} {bl bh:Nat→Nat} {W:World} {q:ByteArray} {f:Nat→Option Pl.Nd} {ns:List (Option Pl.Nd)} (a0 a1 a2 a3:Bool) (h:Co P B lo hi p x g n cap vs bl bh [a0,a1,a2,a3] W) (h4:n≤4)
  (hP:∀i,i<n→Local B (bl i) (bh i) (P i)) (hQ:∀i,i<n→Local B (bl i) (bh i) (Q i)) (hA:∀i W,i<n→hi≤W.heap.size→P i W→Ask W (vs i) q (f i) (bl i) (bh i) (Q i)) (hm:∀k m,f k=some m→0≤m.mark∧m.mark≤8)
  (hlen:ns.length=n) (hns:∀i a,i<n→[a0,a1,a2,a3][i]? =some a→ns[i]? =some (if a then f i else none)):
  Calls Tryz.prog 91 #[.string q, .agg #[.bool a0, .bool a1, .bool a2, .bool a3], .pointer (some ⟨x,0,none⟩)] W fun e w'=>e= .returned (.agg (Pl.decS ns).cs.toArray)∧Mem.Band lo hi W w'∧Mid Q B lo hi p x g n cap vs bl bh (zg8 x::[a0,a1,a2,a3].map Value.bool).toArray (Pl.decS ns).have' w':=by
 have hy:=sys_of (N:=W.heap.size) (hv:=[a0,a1,a2,a3]) (cap:=cap) (cs:=(zg8 x::[a0,a1,a2,a3].map Value.bool).toArray) (T:=142) h.lv.size h.lv.xin.2 h.lv.gin.2 h.pin h.farP h.lv.band hP hQ hA hm;refine (decW_any q a0 a1 a2 a3 lo hi x g n cap vs f _ ns W h4 hy ⟨⟨h.lv,h.lv.size,Nat.le_refl _,fun i _ hi hh=>(h.kids i hh).2,fun i hh=>?_⟩,h.blk⟩ hlen hns).mono ?_
 ·exfalso;have :∀b∈Pl.Sg.zero.have',b=false:=by decide
  have :=this true (List.mem_of_getElem? hh);cases this
 ·rintro e w' ⟨rfl,b,k,s,es,sv,bk⟩;refine ⟨rfl,b,sv.lv,bk,fun i hi=>?_⟩;rw [es] at hi;exact sv.done i (up_have hi)
end WWk
end
section

theorem wp_merge {P:Program} {code:Code} {Q:Exit→Act→World→Prop} {T:Array Value} {D:List _} {w:World} (R:Array Value→Array Value→World→Prop)
  (h:code.wp P (fun e a W=>e= .normal∧a.defers=D∧R T a.tmps W) ⟨T,D⟩ w) (h2:∀T' W,R T T' W→Q .normal ⟨T',D⟩ W):code.wp P Q ⟨T,D⟩ w:=
 Code.wp_mono (fun e a W ⟨h1,h3,h4⟩=>by
  obtain ⟨t,d⟩:=a;simp only at h3;subst h1 h3
  exact h2 _ _ h4) h
end
end Go.Proofs.YtpggbphcbcogdaaGreatDoor
