/- Several texts of one claim in one file: MemNest, MemFx, MemWk2, Merge. -/
import Derived.Test.YtpakookhgpphaaaDoorG04
import Derived.Below
import Derived.Laws.AppendOwn
import Derived.Test.YtpakookhgpphaaaDoorG06
import Derived.Test.YtpakookhgpphaaaDoorG25
import Derived.Test.YtpakookhgpphaaaDoorPlainHist
import Derived.Test.YtpakookhgpphaaaDoorWWkD
import Derived.Deep.RegionHeld3
namespace Go.Proofs.YtpakookhgpphaaaDoor
section
open Go.RowKit
namespace Mem
def rowF (w:World) (N:Nat→Prop):Pl.Fo→Nat→Nat→Prop
 | .nil,_,_=>True
 | .cons k m,b,i=>(∃x y a cap,w.cell? ⟨b,i,none⟩=some x∧w.cell? ⟨b,i+1,none⟩=some y∧w.cell? ⟨b,i+2,none⟩=some (.slice a k.len cap)∧b<w.heap.size∧N b∧
   (∃q,x= .map q)∧(∃q,y= .int .i64 q)∧(k= .nil∨∃b',a=some ⟨b',0,none⟩∧rowF w N k b' 0))∧rowF w N m b (i+3)
def lay (w:World) (N:Nat→Prop) (k:Pl.Fo) (v:Value):Prop:=∃a cap,v= .slice a k.len cap∧(k= .nil∨∃b',a=some ⟨b',0,none⟩∧rowF w N k b' 0)
theorem rowF_mono {w w':World} {N N':Nat→Prop} (h:∀b,N b→b<w.heap.size→N' b∧b<w'.heap.size∧w'.heap[b]? =w.heap[b]?) (F:Pl.Fo):∀b i,rowF w N F b i→rowF w' N' F b i:=by
 induction F with
 |nil=>intro b i _;trivial
 |cons k m ihk ihm=>
  intro b i hr;obtain ⟨⟨x,y,a,cap,h1,h2,h3,h4,h5,hx,hy,h6⟩,h7⟩:=hr;obtain ⟨g1,g2,g3⟩:=h b h5 h4;have c:∀j,w'.cell? ⟨b,j,none⟩=w.cell? ⟨b,j,none⟩:=fun j=>World.cell?_of_block g3;refine ⟨⟨x,y,a,cap,(c _).trans h1,(c _).trans h2,(c _).trans h3,g2,g1,hx,hy,?_⟩,ihm _ _ h7⟩
  rcases h6 with h6|⟨b',h6,h8⟩
  ·exact .inl h6
  ·exact .inr ⟨b',h6,ihk _ _ h8⟩
theorem lay_mono {w w':World} {N N':Nat→Prop} (h:∀b,N b→b<w.heap.size→N' b∧b<w'.heap.size∧w'.heap[b]? =w.heap[b]?) {k:Pl.Fo} {v:Value} (hl:lay w N k v):lay w' N' k v:=by
 obtain ⟨a,cap,h1,h2⟩:=hl;refine ⟨a,cap,h1,?_⟩
 rcases h2 with h2|⟨b',h2,h3⟩
 ·exact .inl h2
 ·exact .inr ⟨b',h2,rowF_mono h _ _ _ h3⟩
theorem lay_call {w w':World} {N:Nat→Prop} {k:Pl.Fo} {v:Value} (h:lay w N k v) (b:Below w.heap.size w w'):lay w' N k v:=lay_mono (fun g hg hl=>⟨hg,Nat.lt_of_lt_of_le hl b.size,b.block g hl⟩) h
end Mem
end
section
open Go.RowKit Go.Maps
namespace Mem
def ownM (w:World) (q:Nat) (L:List Pl.Nd):Prop:=w.ownsMap Tryd.prog 9 MapN.elem q 40 (MapN.mapOf L)
theorem ownM.lt {w:World} {q:Nat} {L:List Pl.Nd} (h:ownM w q L):q<w.heap.size:=World.ownsMap.lt h
theorem ownM.same {w w':World} {q:Nat} {L:List Pl.Nd} (h:ownM w q L) (e:w'.heap[q]? =w.heap[q]?):ownM w' q L:=by
 obtain ⟨es,clock,hb,F,hs,hD⟩:=h;exact ⟨es,clock,e.trans hb,F,hs,hD⟩
theorem ownM.call {w w':World} {q:Nat} {L:List Pl.Nd} (h:ownM w q L) (b:Below w.heap.size w w'):ownM w' q L:=h.same (b.block q h.lt)
theorem ownM.set {w:World} {q:Nat} {L:List Pl.Nd} (h:ownM w q L) (p:Addr) (u:Value) (hp:q≠p.block):ownM (w.setCell p u) q L:=h.same (heap_setCell_other _ _ _ _ hp)
theorem ownM.grown {w w':World} {q:Nat} {L:List Pl.Nd} {r:Option Nat} (h:ownM w q L) (g:w.grownBy w' r) (hr:some q≠r):ownM w' q L:=h.same (g.block q h.lt hr)
def rowX (w:World) (N:Nat→Prop):Pl.Fx→Nat→Nat→Prop
 | .nil,_,_=>True
 | .cons L k m,b,i=>(∃q a cap,w.cell? ⟨b,i,none⟩=some (.map (some q))∧w.cell? ⟨b,i+1,none⟩=some (.int .i64 (k.len:Int))∧w.cell? ⟨b,i+2,none⟩=some (.slice a k.len cap)∧b<w.heap.size∧N b∧N q∧ownM w q L∧
   (k= .nil∨∃b',a=some ⟨b',0,none⟩∧k.len≤cap∧rowX w N k b' 0))∧rowX w N m b (i+3)
def layX (w:World) (N:Nat→Prop) (k:Pl.Fx) (v:Value):Prop:=∃a cap,v= .slice a k.len cap∧(k= .nil∨∃b',a=some ⟨b',0,none⟩∧k.len≤cap∧rowX w N k b' 0)
theorem zo7 {w w':World} {N N':Nat→Prop} (h:∀b,N b→b<w.heap.size→N' b∧b<w'.heap.size∧w'.heap[b]? =w.heap[b]?) (F:Pl.Fx):∀b i,rowX w N F b i→rowX w' N' F b i:=by
 induction F with
 |nil=>intro b i _;trivial
 |cons L k m ihk ihm=>
  intro b i hr;obtain ⟨⟨q,a,cap,h1,h2,h3,h4,h5,hq,hm,h6⟩,h7⟩:=hr;obtain ⟨g1,g2,g3⟩:=h b h5 h4;obtain ⟨q1,q2,q3⟩:=h q hq hm.lt;have c:∀j,w'.cell? ⟨b,j,none⟩=w.cell? ⟨b,j,none⟩:=fun j=>World.cell?_of_block g3;refine ⟨⟨q,a,cap,(c _).trans h1,(c _).trans h2,(c _).trans h3,g2,g1,q1,hm.same q3,?_⟩,ihm _ _ h7⟩
  rcases h6 with h6|⟨b',h6,h8,h9⟩
  ·exact .inl h6
  ·exact .inr ⟨b',h6,h8,ihk _ _ h9⟩
theorem zk3 {w w':World} {N N':Nat→Prop} (h:∀b,N b→b<w.heap.size→N' b∧b<w'.heap.size∧w'.heap[b]? =w.heap[b]?) {k:Pl.Fx} {v:Value} (hl:layX w N k v):layX w' N' k v:=by
 obtain ⟨a,cap,h1,h2⟩:=hl;refine ⟨a,cap,h1,?_⟩
 rcases h2 with h2|⟨b',h2,h3,h4⟩
 ·exact .inl h2
 ·exact .inr ⟨b',h2,h3,zo7 h _ _ _ h4⟩
theorem zs1 {w w':World} {N:Nat→Prop} {F:Pl.Fx} {b i:Nat} (h:rowX w N F b i) (bb:Below w.heap.size w w'):rowX w' N F b i:=zo7 (fun g hg hl=>⟨hg,Nat.lt_of_lt_of_le hl bb.size,bb.block g hl⟩) _ _ _ h
theorem zx4 {w w':World} {N:Nat→Prop} {k:Pl.Fx} {v:Value} (h:layX w N k v) (b:Below w.heap.size w w'):layX w' N k v:=zk3 (fun g hg hl=>⟨hg,Nat.lt_of_lt_of_le hl b.size,b.block g hl⟩) h
theorem layX_weak {w:World} {N N':Nat→Prop} {k:Pl.Fx} {v:Value} (h:layX w N k v) (hn:∀b,N b→b<w.heap.size→N' b):layX w N' k v:=zk3 (fun g hg hl=>⟨hn g hg hl,hl,rfl⟩) h
theorem layX_nil (w:World) (N:Nat→Prop):layX w N .nil (.slice none 0 0):=⟨none,0,rfl, .inl rfl⟩
theorem rowX_row {w:World} {N:Nat→Prop} (F:Pl.Fx):∀b i,rowX w N F b i→rowF w N F.shape b i:=by
 induction F with
 |nil=>intro b i _;trivial
 |cons L k m ihk ihm=>
  intro b i hr;obtain ⟨⟨q,a,cap,h1,h2,h3,h4,h5,hq,hm,h6⟩,h7⟩:=hr;refine ⟨⟨_,_,a,cap,h1,h2,by rw [Pl.Fx.zx2];exact h3,h4,h5,⟨_,rfl⟩,⟨_,rfl⟩,?_⟩,ihm _ _ h7⟩
  rcases h6 with h6|⟨b',h6, -,h8⟩
  ·exact .inl (by rw [h6];rfl)
  ·exact .inr ⟨b',h6,ihk _ _ h8⟩
theorem layX_lay {w:World} {N:Nat→Prop} {k:Pl.Fx} {v:Value} (h:layX w N k v):lay w N k.shape v:=by
 obtain ⟨a,cap,h1,h2⟩:=h;refine ⟨a,cap,by rw [Pl.Fx.zx2];exact h1,?_⟩
 rcases h2 with h2|⟨b',h2, -,h3⟩
 ·exact .inl (by rw [h2];rfl)
 ·exact .inr ⟨b',h2,rowX_row _ _ _ h3⟩
def zh2 (w:World) (N:Nat→Prop):Pl.Fx→List Value→Prop
 | .nil,xs=>xs=[]
 | .cons L k m,xs=>∃q v ys,xs= .map (some q):: .int .i64 (k.len:Int)::v::ys∧N q∧ownM w q L∧layX w N k v∧zh2 w N m ys
theorem zz3 {w w':World} {N N':Nat→Prop} (h:∀b,N b→b<w.heap.size→N' b∧b<w'.heap.size∧w'.heap[b]? =w.heap[b]?) (F:Pl.Fx):∀xs,zh2 w N F xs→zh2 w' N' F xs:=by
 induction F with
 |nil=>intro xs h;exact h
 |cons L k m _ ih=>
  intro xs hx;obtain ⟨q,v,ys,h1,hq,hm,h2,h3⟩:=hx;obtain ⟨q1,q2,q3⟩:=h q hq hm.lt;exact ⟨q,v,ys,h1,q1,hm.same q3,zk3 h h2,ih _ h3⟩
theorem cellsX_snoc {w:World} {N:Nat→Prop} {k:Pl.Fx} {L:List Pl.Nd} {q:Nat} {v:Value} (hq:N q) (hm:ownM w q L) (hv:layX w N k v) (F:Pl.Fx):∀xs,zh2 w N F xs→zh2 w N (F.app (.cons L k .nil)) (xs++[.map (some q), .int .i64 (k.len:Int),v]):=by
 induction F with
 |nil=>intro xs h;cases h;exact ⟨q,v,[],rfl,hq,hm,hv,rfl⟩
 |cons L' k' m _ ih=>
  intro xs hx;obtain ⟨q',v',ys,rfl,hq',hm',h2,h3⟩:=hx;exact ⟨q',v',_,rfl,hq',hm',h2,ih _ h3⟩
theorem rowX_of_cells {w:World} {N N':Nat→Prop} {g:Nat} (hN:∀b,N b→N' b) (hg:N' g) (hlt:g<w.heap.size) (F:Pl.Fx):∀ (xs:List Value) (i:Nat),zh2 w N F xs→(∀j u,xs[j]? =some u→w.cell? ⟨g,i+j,none⟩=some u)→rowX w N' F g i:=by
 induction F with
 |nil=>intro xs i _ _;trivial
 |cons L k m _ ih=>
  intro xs i hx hc;obtain ⟨q,v,ys,rfl,hq,hm,h2,h3⟩:=hx;obtain ⟨a,cap,rfl,h4⟩:=h2;refine ⟨⟨q,a,cap,hc 0 _ rfl,hc 1 _ rfl,hc 2 _ rfl,hlt,hg,hN q hq,hm,?_⟩,ih ys (i+3) h3 fun j u hj=>?_⟩
  ·rcases h4 with h4|⟨b',h4,h6,h5⟩
   ·exact .inl h4
   ·exact .inr ⟨b',h4,h6,zo7 (fun b hb hl=>⟨hN b hb,hl,rfl⟩) _ _ _ h5⟩
  ·have :=hc (j+3) u (by simpa using hj);rw [show i+3+j=i+(j+3) by omega];exact this
theorem zz5 {w:World} {B:Nat} {T:TypeId} {v:Value} {N:Nat→Prop} {F:Pl.Fx} {xs:List Value} (h:w.ownsRow B T 3 v F.len xs) (hc:zh2 w N F xs) (hN:∀b,N b→B≤b):layX w (fun b=>B≤b) F v:=by
 rcases h.2 with ⟨rfl,h0⟩|⟨g,cap,cur,rfl,hb,hg,hc2,hm,hsz,ht⟩
 ·cases F with
  |nil=>exact layX_nil _ _
  |cons L k m=>simp [Pl.Fx.len] at h0
 ·refine ⟨_,cap,rfl, .inr ⟨g,rfl,hc2,rowX_of_cells hN hb (Array.getElem?_eq_some_iff.1 hg).1 F xs 0 hc fun j u hj=>?_⟩⟩;rw [cell_of_row w g _ cur _ (0,0) hg,Nat.zero_add];rw [←ht,List.getElem?_take] at hj
  split at hj
  ·simpa using hj
  ·cases hj
end Mem
end
section
open Go.RowKit Go.Maps
namespace Pl
theorem go_told:∀ (ns:List (Option Nd)) (k:Nat) (s:Sg),s.told=true→(goD k s ns).told=true:=by
 intro ns
 induction ns with
 |nil=>intro k s h;exact h
 |cons y ns ih=>
  intro k s h;cases y with
  |none=>exact ih _ _ h
  |some n=>
   rw [goD]
   split
   ·rfl
   ·exact ih _ _ rfl
theorem go_untold:∀ (ns:List (Option Nd)) (k:Nat) (s:Sg),(goD k s ns).told=false→goD k s ns=s:=by
 intro ns
 induction ns with
 |nil=>intro k s _;rfl
 |cons y ns ih=>
  intro k s h;cases y with
  |none=>exact ih _ _ h
  |some n=>
   exfalso;rw [goD] at h
   split at h
   ·cases h
   ·rw [go_told ns (k+1) (takeS s k n) rfl] at h;cases h
theorem dec_untold {ns:List (Option Nd)} (h:(decS ns).told=false):decS ns=Sg.zero:=by
 unfold decS at h ⊢;by_cases ht:(goD 0 Sg.zero ns).told=false
 ·rw [go_untold _ _ _ ht];exact up_zero
 ·unfold upS at h ⊢
  split
  ·rfl
  ·next hn=>rw [if_neg hn] at h;exact absurd h ht
theorem tell_val (ns:List (Option Nd)):((tellO (decS ns)).getD zeroN)=(decS ns).node∧(tellO (decS ns)).isSome=(decS ns).told:=by
 unfold tellO;cases h:(decS ns).told
 ·rw [dec_untold h];exact ⟨rfl,rfl⟩
 ·exact ⟨rfl,rfl⟩
end Pl
namespace WWk
structure Co (P:Nat→World→Prop) (B lo hi p x g n cap:Nat) (vs:Nat→Value) (bl bh:Nat→Nat) (hv:List Bool) (W:World):Prop where
 lv:Lv W B lo hi x g n cap vs bl bh
 pin:lo≤p∧p<hi
 px:p≠x
 pg:p≠g
 farP:∀i,i<n→p<bl i∨bh i≤p
 blk:Mem.Blk W p (closV x::hv.map Value.bool).toArray 118
 kids:∀i:Nat,hv[i]? =some true→i<n∧P i W
def Lf (B:Nat) (L:List Pl.Nd) (v:Value) (W:World):Prop:=∃q,q<B∧v= .iface 49 (.map (some q))∧Mem.ownM W q L
def Wk (B:Nat):Nat→List Pl.Nd→Pl.Fx→List ByteArray→Value→Nat→Nat→World→Prop
 |0,L,_,_,v,_,_,W=>Lf B L v W
 |d+1,L,k,ps,v,lo,hi,W=>if k.len=0 then Lf B L v W else ∃p x g cap vs bl bh,v=walkV p∧Co (fun i W=>∀L' k',Pl.kid k i=some (L',k')→Wk B d L' k' ps (vs i) (bl i) (bh i) W) B lo hi p x g k.len cap vs bl bh (Pl.walkF (Pl.fnsH k) (Pl.rootS k.len) (Pl.hist ps)).have' W
theorem Co.same {P:Nat→World→Prop} {B lo hi p x g n cap:Nat} {vs:Nat→Value} {bl bh:Nat→Nat} {hv:List Bool} {W W':World} (h:Co P B lo hi p x g n cap vs bl bh hv W) (hP:∀i,i<n→Local B (bl i) (bh i) (P i)) (s:Same B lo hi W W'):Co P B lo hi p x g n cap vs bl bh hv W':=by
 have hsz:=h.lv.size;have hB:=h.lv.base;have e:∀b,lo≤b→b<hi→W'.heap[b]? =W.heap[b]?:=fun b h1 h2=>s.block b (by omega) (.inr ⟨h1,h2⟩);refine ⟨h.lv.keep s.size (e x h.lv.xin.1 h.lv.xin.2) (e g h.lv.gin.1 h.lv.gin.2),h.pin,h.px,h.pg,h.farP,(e p h.pin.1 h.pin.2).trans h.blk,fun i hi=>?_⟩;obtain ⟨h1,h2⟩:=h.kids i hi;have hb:=h.lv.band i h1;exact ⟨h1,hP i h1 W W' (by omega) (by omega) h2 ⟨s.size,fun b hb1 hb2=>s.block b hb1 (by omega)⟩⟩
theorem Lf.same {B:Nat} {L:List Pl.Nd} {v:Value} {W W':World} (h:Lf B L v W) (e:∀b,b<B→b<W.heap.size→W'.heap[b]? =W.heap[b]?):Lf B L v W':=by
 obtain ⟨q,h1,h2,h3⟩:=h;exact ⟨q,h1,h2,h3.same (e q h1 h3.lt)⟩
theorem wk_local (B:Nat):∀ (d:Nat) (L:List Pl.Nd) (k:Pl.Fx) (ps:List ByteArray) (v:Value) (lo hi:Nat),Local B lo hi (Wk B d L k ps v lo hi):=by
 intro d
 induction d with
 |zero=>intro L k ps v lo hi W W' _ _ h s;exact Lf.same h (fun b h1 h2=>s.block b h2 (.inl h1))
 |succ d ih=>
  intro L k ps v lo hi W W' h1 h2 h s;simp only [Wk] at h ⊢
  split at h
  ·next hk=>rw [if_pos hk];exact Lf.same h (fun b h1 h2=>s.block b h2 (.inl h1))
  ·next hk=>
   rw [if_neg hk];obtain ⟨p,x,g,cap,vs,bl,bh,rfl,c⟩:=h;exact ⟨p,x,g,cap,vs,bl,bh,rfl,c.same (fun i _ W W' a1 a2 hh ss L' k' e=>ih L' k' ps (vs i) (bl i) (bh i) W W' a1 a2 (hh L' k' e) ss) s⟩
theorem wk_call {B d:Nat} {L:List Pl.Nd} {k:Pl.Fx} {ps:List ByteArray} {v:Value} {lo hi:Nat} {W W':World} (h:Wk B d L k ps v lo hi W) (h1:hi≤W.heap.size) (h2:B≤W.heap.size) (b:Below W.heap.size W W'):Wk B d L k ps v lo hi W':=
 wk_local B d L k ps v lo hi W W' h1 h2 h ⟨b.size,fun i hi _=>b.block i hi⟩
structure Mid (Q:Nat→World→Prop) (B lo hi p x g n cap:Nat) (vs:Nat→Value) (bl bh:Nat→Nat) (cs:Array Value) (hv:List Bool) (W:World):Prop where
 lv:Lv W B lo hi x g n cap vs bl bh
 blk:Mem.Blk W p cs 118
 kids:∀i:Nat,hv[i]? =some true→i<n∧Q i W
theorem Mid.alloc {Q:Nat→World→Prop} {B lo hi p x g n cap:Nat} {vs:Nat→Value} {bl bh:Nat→Nat} {cs:Array Value} {hv:List Bool} {W W':World} (h:Mid Q B lo hi p x g n cap vs bl bh cs hv W) (hQ:∀i,i<n→Local B (bl i) (bh i) (Q i)) (b:Below W.heap.size W W'):Mid Q B lo hi p x g n cap vs bl bh cs hv W':=by
 have hsz:=h.lv.size;have hB:=h.lv.base;have hx:=h.lv.xin;have hg:=h.lv.gin;refine ⟨h.lv.keep b.size (b.block x (by omega)) (b.block g (by omega)),h.blk.call b,fun i hi=>?_⟩;obtain ⟨h1,h2⟩:=h.kids i hi;have hb:=h.lv.band i h1;exact ⟨h1,hQ i h1 W W' (by omega) (by omega) h2 ⟨b.size,fun c hc _=>b.block c hc⟩⟩
theorem Mid.grown {Q:Nat→World→Prop} {B lo hi p x g n cap X:Nat} {vs:Nat→Value} {bl bh:Nat→Nat} {cs:Array Value} {hv:List Bool} {W W':World} (h:Mid Q B lo hi p x g n cap vs bl bh cs hv W) (hQ:∀i,i<n→Local B (bl i) (bh i) (Q i)) (b:W.grownBy W' (some X)) (hX:hi≤X) (hp:p<hi):Mid Q B lo hi p x g n cap vs bl bh cs hv W':=by
 have hsz:=h.lv.size;have hB:=h.lv.base;have hx:=h.lv.xin;have hg:=h.lv.gin;have e:∀c,c<hi→W'.heap[c]? =W.heap[c]?:=fun c hc=>b.block c (by omega) (fun e=>by cases e;omega);refine ⟨h.lv.keep b.size (e x hx.2) (e g hg.2),(e p hp).trans h.blk,fun i hi=>?_⟩;obtain ⟨h1,h2⟩:=h.kids i hi;have hb:=h.lv.band i h1;exact ⟨h1,hQ i h1 W W' (by omega) (by omega) h2 ⟨b.size,fun c hc hh=>e c (by omega)⟩⟩
theorem Mid.co {Q:Nat→World→Prop} {B lo hi p x g n cap:Nat} {vs:Nat→Value} {bl bh:Nat→Nat} {cs cs':Array Value} {hv:List Bool} {W W':World} (h:Mid Q B lo hi p x g n cap vs bl bh cs hv W) (hQ:∀i,i<n→Local B (bl i) (bh i) (Q i)) (hp:lo≤p∧p<hi) (px:p≠x) (pg:p≠g) (fp:∀i,i<n→p<bl i∨bh i≤p)
  (b:W.grownBy W' (some p)) (k:Mem.Blk W' p cs' 118) (e:cs'=(closV x::hv.map Value.bool).toArray):Co Q B lo hi p x g n cap vs bl bh hv W':=by
 have hsz:=h.lv.size;have hB:=h.lv.base;have hx:=h.lv.xin;have hg:=h.lv.gin;have e2:∀c,c<hi→c≠p→W'.heap[c]? =W.heap[c]?:=fun c hc hn=>b.block c (by omega) (fun e=>hn (Option.some.inj e));refine ⟨h.lv.keep b.size (e2 x hx.2 (fun e=>px e.symm)) (e2 g hg.2 (fun e=>pg e.symm)),hp,px,pg,fp,by rw [←e];exact k,fun i hi=>?_⟩;obtain ⟨h1,h2⟩:=h.kids i hi;have hb:=h.lv.band i h1;have hf:=fp i h1;exact ⟨h1,hQ i h1 W W' (by omega) (by omega) h2 ⟨b.size,fun c hc hh=>e2 c (by omega) (by omega)⟩⟩
theorem sys_of {P Q:Nat→World→Prop} {B lo hi p x g n cap N:Nat} {vs:Nat→Value} {bl bh:Nat→Nat} {hv:List Bool} {cs:Array Value} {T:TypeId} {q:ByteArray} {f:Nat→Option Pl.Nd} (hiN:hi≤N) (hx:x<hi) (hg:g<hi) (hp:lo≤p∧p<hi) (fp:∀i,i<n→p<bl i∨bh i≤p) (hb:∀i,i<n→lo≤bl i∧bl i≤bh i∧bh i≤hi)
  (hP:∀i,i<n→Local B (bl i) (bh i) (P i)) (hQ:∀i,i<n→Local B (bl i) (bh i) (Q i)) (hA:∀i W,i<n→hi≤W.heap.size→P i W→Ask W (vs i) q (f i) (bl i) (bh i) (Q i)) (hm:∀k m,f k=some m→0≤m.mark∧m.mark≤8):
  Sys N lo hi x g n cap vs hv q f (fun k hh W=>Sv N W B lo hi x g n cap vs bl bh hv P Q k hh∧Mem.Blk W p cs T):=by
 refine ⟨hiN,by omega,by omega,fun k hh W h=>h.1.NW,fun k hh W W' h b=>⟨h.1.call hP hQ b,h.2.call b⟩,fun k hh W W' X h b hX=>⟨h.1.grown hP hQ b hX,h.2.grown b (fun e=>by cases e;omega)⟩,fun k hh W h=>⟨h.1.skip,h.2⟩,fun k hh W h=>by have :=h.1.lv.box.cell 0;simpa using this,fun k hh W h i hi=>h.1.lv.row i hi,?_,hm⟩;intro k s W h hk hh;obtain ⟨T',x',F,r,h1,h2,h3,h4⟩:=hA k W hk (Nat.le_trans hiN h.1.NW) (h.1.todo k (Nat.le_refl _) hk hh);refine ⟨T',x',F,r,h1,h2,h3,h4.mono ?_⟩;rintro e w' ⟨rfl,b,q⟩;have hbb:=hb k hk;have s1:=h.1.ask hP hQ hk b q;have b1:Mem.Blk w' p cs T:=b.blk h.2 (fp k hk);exact ⟨rfl,b.wide hbb.1 hbb.2.2,⟨s1,b1⟩,fun m=>⟨s1.take hk q m,b1⟩⟩
theorem dec_walk {P Q:Nat→World→Prop} {B lo hi p x g n cap:Nat} {vs:Nat→Value} {bl bh:Nat→Nat} {W:World} {q:ByteArray} {f:Nat→Option Pl.Nd} {ns:List (Option Pl.Nd)} (a0 a1 a2 a3:Bool) (h:Co P B lo hi p x g n cap vs bl bh [a0,a1,a2,a3] W) (h4:n≤4)
  (hP:∀i,i<n→Local B (bl i) (bh i) (P i)) (hQ:∀i,i<n→Local B (bl i) (bh i) (Q i)) (hA:∀i W,i<n→hi≤W.heap.size→P i W→Ask W (vs i) q (f i) (bl i) (bh i) (Q i)) (hm:∀k m,f k=some m→0≤m.mark∧m.mark≤8)
  (hlen:ns.length=n) (hns:∀i a,i<n→[a0,a1,a2,a3][i]? =some a→ns[i]? =some (if a then f i else none)):
  Calls Tryd.prog 64 #[.string q, .agg #[.bool a0, .bool a1, .bool a2, .bool a3], .pointer (some ⟨x,0,none⟩)] W fun e w'=>e= .returned (.agg (Pl.decS ns).cs.toArray)∧Mem.Band lo hi W w'∧Mid Q B lo hi p x g n cap vs bl bh (closV x::[a0,a1,a2,a3].map Value.bool).toArray (Pl.decS ns).have' w':=by
 have hy:=sys_of (N:=W.heap.size) (hv:=[a0,a1,a2,a3]) (cap:=cap) (cs:=(closV x::[a0,a1,a2,a3].map Value.bool).toArray) (T:=118) h.lv.size h.lv.xin.2 h.lv.gin.2 h.pin h.farP h.lv.band hP hQ hA hm;refine (decW_any q a0 a1 a2 a3 lo hi x g n cap vs f _ ns W h4 hy ⟨⟨h.lv,h.lv.size,Nat.le_refl _,fun i _ hi hh=>(h.kids i hh).2,fun i hh=>?_⟩,h.blk⟩ hlen hns).mono ?_
 ·exfalso;have :∀b∈Pl.Sg.zero.have',b=false:=by decide
  have :=this true (List.mem_of_getElem? hh);cases this
 ·rintro e w' ⟨rfl,b,k,s,es,sv,bk⟩;refine ⟨rfl,b,sv.lv,bk,fun i hi=>?_⟩;rw [es] at hi;exact sv.done i (up_have hi)
end WWk
end
section

theorem zw5 {P:Program} {code:Code} {Q:Exit→Act→World→Prop} {T:Array Value} {D:List _} {w:World} (R:Array Value→Array Value→World→Prop)
  (h:code.wp P (fun e a W=>e= .normal∧a.defers=D∧R T a.tmps W) ⟨T,D⟩ w) (h2:∀T' W,R T T' W→Q .normal ⟨T',D⟩ W):code.wp P Q ⟨T,D⟩ w:=
 Code.wp_mono (fun e a W ⟨h1,h3,h4⟩=>by
  obtain ⟨t,d⟩:=a;simp only at h3;subst h1 h3
  exact h2 _ _ h4) h
end
end Go.Proofs.YtpakookhgpphaaaDoor
