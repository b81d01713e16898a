/- Several texts of one claim in one file: MemFx, MemMaps, WWords, WName, MemTexts, WNames, WJoin, WPathOf, WParentI, WNodesI, WTakeX, WErrs4, WLawK. -/
import Derived.Test.YtbomeifgfalmdaaGreatDoorG03
import Derived.WalkSpells
import Derived.Lib.OthersKept
set_option maxRecDepth 100000
set_option maxHeartbeats 4000000
namespace Go.Proofs.YtbomeifgfalmdaaGreatDoor
section
open Go.RowKit Go.Maps
namespace Mem
def ownM (w:World) (q:Nat) (L:List Pl.Nd):Prop:=w.ownsMap Tryz.prog 9 MapN.elem q 40 (MapN.mapOf L)
theorem ownM.lt {w:World} {q:Nat} {L:List Pl.Nd} (h:ownM w q L):q<w.heap.size:=World.ownsMap.lt h
theorem ownM.same {w w':World} {q:Nat} {L:List Pl.Nd} (h:ownM w q L) (e:w'.heap[q]? =w.heap[q]?):ownM w' q L:=by
 obtain ⟨es,clock,hb,F,hs,hD⟩:=h;exact ⟨es,clock,e.trans hb,F,hs,hD⟩
theorem ownM.call {w w':World} {q:Nat} {L:List Pl.Nd} (h:ownM w q L) (b:Below w.heap.size w w'):ownM w' q L:=h.same (b.block q h.lt)
theorem ownM.set {w:World} {q:Nat} {L:List Pl.Nd} (h:ownM w q L) (p:Addr) (u:Value) (hp:q≠p.block):ownM (w.setCell p u) q L:=h.same (heap_setCell_other _ _ _ _ hp)
theorem ownM.grown {w w':World} {q:Nat} {L:List Pl.Nd} {r:Option Nat} (h:ownM w q L) (g:w.grownBy w' r) (hr:some q≠r):ownM w' q L:=h.same (g.block q h.lt hr)
def rowX (w:World) (N:Nat→Prop):Pl.Fx→Nat→Nat→Prop
 | .nil,_,_=>True
 | .cons L k m,b,i=>(∃q a cap,w.cell? ⟨b,i,none⟩=some (.map (some q))∧w.cell? ⟨b,i+1,none⟩=some (.int .i64 (k.len:Int))∧w.cell? ⟨b,i+2,none⟩=some (.slice a k.len cap)∧b<w.heap.size∧N b∧N q∧ownM w q L∧
   (k= .nil∨∃b',a=some ⟨b',0,none⟩∧k.len≤cap∧rowX w N k b' 0))∧rowX w N m b (i+3)
def layX (w:World) (N:Nat→Prop) (k:Pl.Fx) (v:Value):Prop:=∃a cap,v= .slice a k.len cap∧(k= .nil∨∃b',a=some ⟨b',0,none⟩∧k.len≤cap∧rowX w N k b' 0)
theorem zy3 {w w':World} {N N':Nat→Prop} (h:∀b,N b→b<w.heap.size→N' b∧b<w'.heap.size∧w'.heap[b]? =w.heap[b]?) (F:Pl.Fx):∀b i,rowX w N F b i→rowX w' N' F b i:=by
 induction F with
 |nil=>intro b i _;trivial
 |cons L k m ihk ihm=>
  intro b i hr;obtain ⟨⟨q,a,cap,h1,h2,h3,h4,h5,hq,hm,h6⟩,h7⟩:=hr;obtain ⟨g1,g2,g3⟩:=h b h5 h4;obtain ⟨q1,q2,q3⟩:=h q hq hm.lt;have c:∀j,w'.cell? ⟨b,j,none⟩=w.cell? ⟨b,j,none⟩:=fun j=>World.cell?_of_block g3;refine ⟨⟨q,a,cap,(c _).trans h1,(c _).trans h2,(c _).trans h3,g2,g1,q1,hm.same q3,?_⟩,ihm _ _ h7⟩
  rcases h6 with h6|⟨b',h6,h8,h9⟩
  ·exact .inl h6
  ·exact .inr ⟨b',h6,h8,ihk _ _ h9⟩
theorem zo7 {w w':World} {N N':Nat→Prop} (h:∀b,N b→b<w.heap.size→N' b∧b<w'.heap.size∧w'.heap[b]? =w.heap[b]?) {k:Pl.Fx} {v:Value} (hl:layX w N k v):layX w' N' k v:=by
 obtain ⟨a,cap,h1,h2⟩:=hl;refine ⟨a,cap,h1,?_⟩
 rcases h2 with h2|⟨b',h2,h3,h4⟩
 ·exact .inl h2
 ·exact .inr ⟨b',h2,h3,zy3 h _ _ _ h4⟩
theorem zw0 {w w':World} {N:Nat→Prop} {F:Pl.Fx} {b i:Nat} (h:rowX w N F b i) (bb:Below w.heap.size w w'):rowX w' N F b i:=zy3 (fun g hg hl=>⟨hg,Nat.lt_of_lt_of_le hl bb.size,bb.block g hl⟩) _ _ _ h
theorem zo1 {w w':World} {N:Nat→Prop} {k:Pl.Fx} {v:Value} (h:layX w N k v) (b:Below w.heap.size w w'):layX w' N k v:=zo7 (fun g hg hl=>⟨hg,Nat.lt_of_lt_of_le hl b.size,b.block g hl⟩) h
theorem zr6 {w:World} {N N':Nat→Prop} {k:Pl.Fx} {v:Value} (h:layX w N k v) (hn:∀b,N b→b<w.heap.size→N' b):layX w N' k v:=zo7 (fun g hg hl=>⟨hn g hg hl,hl,rfl⟩) h
theorem layX_nil (w:World) (N:Nat→Prop):layX w N .nil (.slice none 0 0):=⟨none,0,rfl, .inl rfl⟩
theorem rowX_row {w:World} {N:Nat→Prop} (F:Pl.Fx):∀b i,rowX w N F b i→rowF w N F.shape b i:=by
 induction F with
 |nil=>intro b i _;trivial
 |cons L k m ihk ihm=>
  intro b i hr;obtain ⟨⟨q,a,cap,h1,h2,h3,h4,h5,hq,hm,h6⟩,h7⟩:=hr;refine ⟨⟨_,_,a,cap,h1,h2,by rw [Pl.Fx.zv1];exact h3,h4,h5,⟨_,rfl⟩,⟨_,rfl⟩,?_⟩,ihm _ _ h7⟩
  rcases h6 with h6|⟨b',h6, -,h8⟩
  ·exact .inl (by rw [h6];rfl)
  ·exact .inr ⟨b',h6,ihk _ _ h8⟩
theorem layX_lay {w:World} {N:Nat→Prop} {k:Pl.Fx} {v:Value} (h:layX w N k v):lay w N k.shape v:=by
 obtain ⟨a,cap,h1,h2⟩:=h;refine ⟨a,cap,by rw [Pl.Fx.zv1];exact h1,?_⟩
 rcases h2 with h2|⟨b',h2, -,h3⟩
 ·exact .inl (by rw [h2];rfl)
 ·exact .inr ⟨b',h2,rowX_row _ _ _ h3⟩
def zk6 (w:World) (N:Nat→Prop):Pl.Fx→List Value→Prop
 | .nil,xs=>xs=[]
 | .cons L k m,xs=>∃q v ys,xs= .map (some q):: .int .i64 (k.len:Int)::v::ys∧N q∧ownM w q L∧layX w N k v∧zk6 w N m ys
theorem yg8 {w w':World} {N N':Nat→Prop} (h:∀b,N b→b<w.heap.size→N' b∧b<w'.heap.size∧w'.heap[b]? =w.heap[b]?) (F:Pl.Fx):∀xs,zk6 w N F xs→zk6 w' N' F xs:=by
 induction F with
 |nil=>intro xs h;exact h
 |cons L k m _ ih=>
  intro xs hx;obtain ⟨q,v,ys,h1,hq,hm,h2,h3⟩:=hx;obtain ⟨q1,q2,q3⟩:=h q hq hm.lt;exact ⟨q,v,ys,h1,q1,hm.same q3,zo7 h h2,ih _ h3⟩
theorem cellsX_snoc {w:World} {N:Nat→Prop} {k:Pl.Fx} {L:List Pl.Nd} {q:Nat} {v:Value} (hq:N q) (hm:ownM w q L) (hv:layX w N k v) (F:Pl.Fx):∀xs,zk6 w N F xs→zk6 w N (F.app (.cons L k .nil)) (xs++[.map (some q), .int .i64 (k.len:Int),v]):=by
 induction F with
 |nil=>intro xs h;cases h;exact ⟨q,v,[],rfl,hq,hm,hv,rfl⟩
 |cons L' k' m _ ih=>
  intro xs hx;obtain ⟨q',v',ys,rfl,hq',hm',h2,h3⟩:=hx;exact ⟨q',v',_,rfl,hq',hm',h2,ih _ h3⟩
theorem rowX_of_cells {w:World} {N N':Nat→Prop} {g:Nat} (hN:∀b,N b→N' b) (hg:N' g) (hlt:g<w.heap.size) (F:Pl.Fx):∀ (xs:List Value) (i:Nat),zk6 w N F xs→(∀j u,xs[j]? =some u→w.cell? ⟨g,i+j,none⟩=some u)→rowX w N' F g i:=by
 induction F with
 |nil=>intro xs i _ _;trivial
 |cons L k m _ ih=>
  intro xs i hx hc;obtain ⟨q,v,ys,rfl,hq,hm,h2,h3⟩:=hx;obtain ⟨a,cap,rfl,h4⟩:=h2;refine ⟨⟨q,a,cap,hc 0 _ rfl,hc 1 _ rfl,hc 2 _ rfl,hlt,hg,hN q hq,hm,?_⟩,ih ys (i+3) h3 fun j u hj=>?_⟩
  ·rcases h4 with h4|⟨b',h4,h6,h5⟩
   ·exact .inl h4
   ·exact .inr ⟨b',h4,h6,zy3 (fun b hb hl=>⟨hN b hb,hl,rfl⟩) _ _ _ h5⟩
  ·have :=hc (j+3) u (by simpa using hj);rw [show i+3+j=i+(j+3) by omega];exact this
theorem yg6 {w:World} {B:Nat} {T:TypeId} {v:Value} {N:Nat→Prop} {F:Pl.Fx} {xs:List Value} (h:w.ownsRow B T 3 v F.len xs) (hc:zk6 w N F xs) (hN:∀b,N b→B≤b):layX w (fun b=>B≤b) F v:=by
 rcases h.2 with ⟨rfl,h0⟩|⟨g,cap,cur,rfl,hb,hg,hc2,hm,hsz,ht⟩
 ·cases F with
  |nil=>exact layX_nil _ _
  |cons L k m=>simp [Pl.Fx.len] at h0
 ·refine ⟨_,cap,rfl, .inr ⟨g,rfl,hc2,rowX_of_cells hN hb (Array.getElem?_eq_some_iff.1 hg).1 F xs 0 hc fun j u hj=>?_⟩⟩;rw [cell_of_row w g _ cur _ (0,0) hg,Nat.zero_add];rw [←ht,List.getElem?_take] at hj
  split at hj
  ·simpa using hj
  ·cases hj
end Mem
end
section
open Go.RowKit Go.Maps
namespace Mem
def mapQ:Option Value→Nat
 |some (.map (some q))=>q
 |_=>0
def rowB:Option Value→Option Nat
 |some (.slice (some p) _ _)=>some p.block
 |_=>none
def zs3 (w:World):Pl.Fx→Nat→Nat→List Nat
 | .nil,_,_=>[]
 | .cons _ k m,b,i=>mapQ (w.cell? ⟨b,i,none⟩)::((match rowB (w.cell? ⟨b,i+2,none⟩) with |some b'=>zs3 w k b' 0|none=>[])++zs3 w m b (i+3))
def zl2 (w:World) (k:Pl.Fx) (v:Value):List Nat:=match rowB (some v) with |some b'=>zs3 w k b' 0|none=>[]
def zl3 (w:World):Pl.Fx→List Value→List Nat
 | .nil,_=>[]
 | .cons _ k m,xs=>mapQ xs[0]?::(zl2 w k (xs[2]?.getD undef)++zl3 w m (xs.drop 3))
theorem zw8 {w:World} {L:List Pl.Nd} {k m:Pl.Fx} {b i q:Nat} {v:Value} (h1:w.cell? ⟨b,i,none⟩=some (.map (some q))) (h2:w.cell? ⟨b,i+2,none⟩=some v):zs3 w (.cons L k m) b i=q::(zl2 w k v++zs3 w m b (i+3)):=by
 rw [zs3,h1,h2];rfl
theorem zo9 (w:World) (v:Value):zl2 w .nil v=[]:=by
 unfold zl2
 split <;> rfl
theorem zx4 (w:World) (k:Pl.Fx) (b n cap:Nat):zl2 w k (.slice (some ⟨b,0,none⟩) n cap)=zs3 w k b 0:=rfl
theorem mapsR_same {w w':World} {N:Nat→Prop} (h:∀b,N b→b<w.heap.size→w'.heap[b]? =w.heap[b]?) (F:Pl.Fx):∀b i,rowX w N F b i→zs3 w' F b i=zs3 w F b i:=by
 induction F with
 |nil=>intro b i _;rfl
 |cons L k m ihk ihm=>
  intro b i hr;obtain ⟨⟨q,a,cap,h1,h2,h3,h4,h5,hq,hm,h6⟩,h7⟩:=hr;have c:∀j,w'.cell? ⟨b,j,none⟩=w.cell? ⟨b,j,none⟩:=fun j=>World.cell?_of_block (h b h5 h4);rw [zw8 ((c _).trans h1) ((c _).trans h3),zw8 h1 h3,ihm _ _ h7]
  rcases h6 with rfl |⟨b',rfl, -,h9⟩
  ·rw [zo9,zo9]
  ·rw [zx4,zx4,ihk _ _ h9]
theorem zw7 {w w':World} {N:Nat→Prop} (h:∀b,N b→b<w.heap.size→w'.heap[b]? =w.heap[b]?) {k:Pl.Fx} {v:Value} (hl:layX w N k v):zl2 w' k v=zl2 w k v:=by
 obtain ⟨a,cap,rfl,h2⟩:=hl
 rcases h2 with rfl |⟨b',rfl, -,h4⟩
 ·rw [zo9,zo9]
 ·rw [zx4,zx4,mapsR_same h _ _ _ h4]
theorem zn2 (w:World) (L:List Pl.Nd) (k m:Pl.Fx) (q:Nat) (c v:Value) (ys:List Value):zl3 w (.cons L k m) (.map (some q)::c::v::ys)=q::(zl2 w k v++zl3 w m ys):=rfl
theorem mapsC_same {w w':World} {N:Nat→Prop} (h:∀b,N b→b<w.heap.size→w'.heap[b]? =w.heap[b]?) (F:Pl.Fx):∀xs,zk6 w N F xs→zl3 w' F xs=zl3 w F xs:=by
 induction F with
 |nil=>intro xs _;rfl
 |cons L k m _ ih=>
  intro xs hx;obtain ⟨q,v,ys,rfl,hq,hm,h2,h3⟩:=hx;rw [zn2,zn2,zw7 h h2,ih _ h3]
theorem mapsR_in {w:World} {N:Nat→Prop} (F:Pl.Fx):∀b i,rowX w N F b i→∀j∈zs3 w F b i,N j∧j<w.heap.size:=by
 induction F with
 |nil=>intro b i _ j hj;cases hj
 |cons L k m ihk ihm=>
  intro b i hr j hj;obtain ⟨⟨q,a,cap,h1,h2,h3,h4,h5,hq,hm,h6⟩,h7⟩:=hr;rw [zw8 h1 h3] at hj
  rcases List.mem_cons.1 hj with rfl |hj
  ·exact ⟨hq,hm.lt⟩
  rcases List.mem_append.1 hj with hj|hj
  ·rcases h6 with rfl |⟨b',rfl, -,h9⟩
   ·rw [zo9] at hj;cases hj
   ·exact ihk _ _ h9 j hj
  ·exact ihm _ _ h7 j hj
theorem mapsL_in {w:World} {N:Nat→Prop} {k:Pl.Fx} {v:Value} (hl:layX w N k v):∀j∈zl2 w k v,N j∧j<w.heap.size:=by
 obtain ⟨a,cap,rfl,h2⟩:=hl
 rcases h2 with rfl |⟨b',rfl, -,h4⟩
 ·rw [zo9];intro j hj;cases hj
 ·exact mapsR_in _ _ _ h4
theorem mapsC_in {w:World} {N:Nat→Prop} (F:Pl.Fx):∀xs,zk6 w N F xs→∀j∈zl3 w F xs,N j∧j<w.heap.size:=by
 induction F with
 |nil=>intro xs _ j hj;cases hj
 |cons L k m _ ih=>
  intro xs hx j hj;obtain ⟨q,v,ys,rfl,hq,hm,h2,h3⟩:=hx;rw [zn2] at hj
  rcases List.mem_cons.1 hj with rfl |hj
  ·exact ⟨hq,hm.lt⟩
  rcases List.mem_append.1 hj with hj|hj
  ·exact mapsL_in h2 j hj
  ·exact ih _ h3 j hj
theorem mapsC_snoc {w:World} {N:Nat→Prop} (L:List Pl.Nd) (k:Pl.Fx) (q:Nat) (c v:Value) (F:Pl.Fx):∀xs,zk6 w N F xs→zl3 w (F.app (.cons L k .nil)) (xs++[.map (some q),c,v])=zl3 w F xs++q::zl2 w k v:=by
 induction F with
 |nil=>intro xs h;cases h;show zl3 w (.cons L k .nil) _=_;rw [List.nil_append,zn2];simp [zl3]
 |cons L' k' m _ ih=>
  intro xs hx;obtain ⟨q',v',ys,rfl,hq',hm',h2,h3⟩:=hx;show zl3 w (.cons L' k' (m.app _)) (.map (some q')::_::v'::(ys++_))=_;rw [zn2,zn2,ih _ h3];simp
theorem yl7 {w:World} {N:Nat→Prop} {g:Nat} (F:Pl.Fx):∀ (xs:List Value) (i:Nat),zk6 w N F xs→(∀j u,xs[j]? =some u→w.cell? ⟨g,i+j,none⟩=some u)→zs3 w F g i=zl3 w F xs:=by
 induction F with
 |nil=>intro xs i _ _;rfl
 |cons L k m _ ih=>
  intro xs i hx hc;obtain ⟨q,v,ys,rfl,hq,hm,h2,h3⟩:=hx;have e0:w.cell? ⟨g,i,none⟩=some (.map (some q)):=hc 0 _ rfl;rw [zw8 e0 (hc 2 _ rfl),zn2,ih ys (i+3) h3 fun j u hj=>?_];have :=hc (j+3) u (by simpa using hj);rw [show i+3+j=i+(j+3) by omega];exact this
theorem mapsL_of_row {w:World} {B:Nat} {T:TypeId} {v:Value} {N:Nat→Prop} {F:Pl.Fx} {xs:List Value} (h:w.ownsRow B T 3 v F.len xs) (hc:zk6 w N F xs):zl2 w F v=zl3 w F xs:=by
 rcases h.2 with ⟨rfl,h0⟩|⟨g,cap,cur,rfl,hb,hg,hc2,hm,hsz,ht⟩
 ·cases F with
  |nil=>exact zo9 _ _
  |cons L k m=>simp [Pl.Fx.len] at h0
 ·rw [zx4];refine yl7 F xs 0 hc fun j u hj=>?_;rw [cell_of_row w g _ cur _ (0,0) hg,Nat.zero_add];rw [←ht,List.getElem?_take] at hj
  split at hj
  ·simpa using hj
  ·cases hj
def apart (w:World) (q:Nat) (k:Pl.Fx) (v:Value):Prop:=(q::zl2 w k v).Pairwise (· < ·)
theorem yb3 {w w':World} {N:Nat→Prop} (h:∀b,N b→b<w.heap.size→w'.heap[b]? =w.heap[b]?) {q:Nat} {k:Pl.Fx} {v:Value} (hl:layX w N k v) (ha:apart w q k v):apart w' q k v:=by
 show (q::_).Pairwise _;rw [zw7 h hl];exact ha
theorem yj8 {w w':World} {N:Nat→Prop} {q:Nat} {k:Pl.Fx} {v:Value} (hl:layX w N k v) (ha:apart w q k v) (b:Below w.heap.size w w'):apart w' q k v:=yb3 (fun j _ hj=>b.block j hj) hl ha
end Mem
end
section
open Go.RowKit
namespace Pl
theorem get_ge (s : ByteArray) (k : Nat) (h : k < s.size) : s.get! k = s[k] := by
  simp [ByteArray.get!, getElem!_pos, h]; rfl
theorem rune_other (s : ByteArray) (pos : Nat) (h : pos < s.size) (hb : s[pos].toNat ≠ 47) :
    ((Utf8.decode s pos).1 ≠ 47) ∧ 1 ≤ (Utf8.decode s pos).2 ∧ pos + (Utf8.decode s pos).2 ≤ s.size ∧ ∀ j (hj : j < s.size), pos ≤ j → j < pos + (Utf8.decode s pos).2 → s[j].toNat ≠ 47 := by
  by_cases ha : s[pos].toNat < 128
  · rw [decode_ascii s pos h ha]
    refine ⟨hb, Nat.le_refl _, h, fun j hj h1 h2 => ?_⟩
    obtain rfl : j = pos := by simp at h2; omega
    exact hb
  · have hh := decode_high s pos h (by omega)
    refine ⟨by omega, hh.2, ?_⟩
    have hg := get_ge s
    have key : pos + (Utf8.decode s pos).2 ≤ s.size ∧ ∀ k, 1 ≤ k → k < (Utf8.decode s pos).2 → (s.get! (pos + k)).toNat / 64 = 2 := by
      have h0 : s.get! (pos + 0) = s[pos] := hg pos h
      simp only [Utf8.decode, h0, ha, if_false]
      repeat' split
      all_goals simp_all
      all_goals first
        | omega
        | (refine ⟨by omega, fun k h1 h2 => ?_⟩
           rcases (show k = 1 ∨ k = 2 ∨ k = 3 by omega) with rfl | rfl | rfl <;> first | omega | (simp_all; done))
    refine ⟨key.1, fun j hj h1 h2 => ?_⟩
    by_cases he : j = pos
    · subst he; exact hb
    · have := key.2 (j - pos) (by omega) (by omega)
      rw [Nat.add_sub_cancel' h1, hg j hj] at this
      omega
theorem cutF_over {s : ByteArray} {fr : Nat} : ∀ n k, k + n ≤ s.size → (∀ j (hj : j < s.size), k ≤ j → j < k + n → s[j].toNat ≠ 47) → cutF s 47 (s.size - k) fr k = cutF s 47 (s.size - (k + n)) fr (k + n) := by
  intro n
  induction n with
  | zero => intro k _ _; rfl
  | succ n ih =>
    intro k hk h
    have hlt : k < s.size := by omega
    have hf : s.size - k = s.size - (k + 1) + 1 := by omega
    rw [hf, yf7 hlt (h k hlt (Nat.le_refl _) (by omega)), ih (k + 1) (by omega) (fun j hj h1 h2 => h j hj (by omega) (by omega))]
    have e : k + 1 + n = k + (n + 1) := by omega
    rw [e]
end Pl
namespace Mem
theorem own_iterAt {w : World} {B e size n : Nat} {v : Value} {xs : List Value} {k : Nat} {s : ByteArray} {pos : Nat} (h : w.ownsRow B e size v n xs) (hk : w.heap[k]? = some (.stringIter s pos)) (pos' : Nat) : (w.iterAt k s pos').ownsRow B e size v n xs := by
  refine ⟨h.1, ?_⟩
  rcases h.2 with h0 | ⟨g, cap, cur, hv, hb, hg, rest⟩
  · exact .inl h0
  · refine .inr ⟨g, cap, cur, hv, hb, ?_, rest⟩
    rw [Lib.iterAt_other _ _ _ _ _ (fun e => by subst e; rw [hk] at hg; cases hg)]
    exact hg
theorem own_no_iter {w : World} {B e size n : Nat} {v : Value} {xs : List Value} {k : Nat} {s : ByteArray} {pos : Nat} (h : w.ownsRow B e size v n xs) (hk : w.heap[k]? = some (.stringIter s pos)) : some k ≠ v.ownBlock := by
  rcases h.2 with ⟨rfl, _⟩ | ⟨g, cap, cur, rfl, hb, hg, rest⟩
  · simp [Value.ownBlock]
  · intro e
    simp only [Value.ownBlock, Option.some.injEq] at e
    subst e
    rw [hk] at hg
    cases hg
end Mem
namespace WWords
theorem zq6 : (Tryz.prog.info? 9).map (fun i => (i.zero, i.size, i.bytes)) = some (some (.string ⟨#[]⟩), 1, 16) := by kernel_rfl

theorem any (s : ByteArray) (w : World) (hs : s.size ≤ 1048576) :
    Calls Tryz.prog 138 #[.string s] w fun e w' => ∃ v, e = .returned v ∧
      w'.ownsRow w.heap.size 9 1 v (Pl.cut s 47).length ((Pl.cut s 47).map Value.string) ∧ Below w.heap.size w w' := by
  obtain ⟨i0, hi, hz0, hz1, hz2⟩ := info_parts zq6
  go_enter Tryz.func138, Tryz.ntmps138
  go_wp2
  go_loopw [3, 4] (fun v x wr => ∃ (pos fr : Nat) (L : List ByteArray), pos ≤ s.size ∧ fr ≤ pos ∧ L.length ≤ pos ∧ x = .int .i64 (fr : Int) ∧
      wr.ownsRow w.heap.size 9 1 v L.length (L.map Value.string) ∧ wr.heap[w.heap.size + 1]? = some (.stringIter s pos) ∧ Below w.heap.size w wr ∧ Hid (Pl.cut s 47 = L ++ Pl.cutF s 47 (s.size - pos) fr pos)) (fun _ _ wr => s.size - wr.iterPos (w.heap.size + 1))
  case atStart =>
    refine ⟨0, 0, [], by omega, by omega, by simp, rfl, (World.ownsRow_made _ _ 0 (Nat.le_refl _) (Nat.zero_le _) rfl).alloc _, ?_, ((Below.refl _ _).alloc (Nat.le_refl _) _).alloc (by simp) _, rfl⟩
    have := World.iter_heap (w.alloc (.cells #[] 9)) s 0
    simpa using this
  case round =>
    obtain ⟨pos, fr, L, hk, hfr, hL, rfl, hown, hit, hbel, H⟩ := hrel
    have hb1 := hbel.size
    have hsz : w.heap.size + 1 < wr.heap.size := (Array.getElem?_eq_some_iff.1 hit).1
    have hip : wr.iterPos (w.heap.size + 1) = pos := by simp only [World.iterPos, hit]
    by_cases hlt : pos < s.size
    · by_cases hq : s[pos].toNat = 47
      · have ha : s[pos].toNat < 128 := by omega
        have hnx : ∀ ty, (Instr.next (.pointer (some ⟨w.heap.size + 1, 0, none⟩)) true ty).run Tryz.prog wr = .ok (.tuple #[.bool true, .int .i64 pos, .int .i32 47]) (wr.iterAt (w.heap.size + 1) s (pos + 1)) := fun ty => by
          rw [Lib.run_next_ascii_at wr (w.heap.size + 1) s pos ty hit hlt ha, hq]; rfl
        have hf : s.size - pos = s.size - (pos + 1) + 1 := by omega
        have H2 : Hid (Pl.cut s 47 = (L ++ [s.extract fr pos]) ++ Pl.cutF s 47 (s.size - (pos + 1)) (pos + 1) (pos + 1)) := by
          show _ = _
          rw [H.out, hf, Pl.cutF_hit hlt hq]; simp
        have hown2 := Mem.own_iterAt hown hit (pos + 1)
        have hit2 := Lib.iterAt_heap wr (w.heap.size + 1) s pos (pos + 1) hit
        have hbel2 := Lib.below_iterAt hbel (k := w.heap.size + 1) (by omega) s (pos + 1)
        have hsz2 : Hid ((wr.iterAt (w.heap.size + 1) s (pos + 1)).heap.size = wr.heap.size) := Lib.iterAt_size _ _ _ _
        have hne := Mem.own_no_iter hown2 hit2
        generalize wr.iterAt (w.heap.size + 1) s (pos + 1) = w1 at hnx hown2 hit2 hbel2 hsz2
        have t1 : (0 : Int) ≤ (fr : Int) := by omega
        have t2 : (fr : Int) ≤ (pos : Int) := by omega
        have t3 : (pos : Int) ≤ (s.size : Int) := by omega
        clear H hf hq hown hit hbel ha
        go_wp2_with (at_builtin; refine wpList_append_own _ rfl _ _ 33 rfl w.heap.size 9 i0 (.string ⟨#[]⟩) 1 16 Tryz.underlying33 hi hz0 hz1 hz2 rfl (by decide) _ _ _ rfl (hown2.alloc _) ⟨w1.heap.size, 0, none⟩ 1 1 [.string (s.extract fr pos)] rfl rfl ?c1 ?c2 ?c3 ?c4 ?c5 ?_)
        case c1 => exact Mem.ze6 _ _ _
        case c2 => intro u hu; simp at hu; subst hu; rfl
        case c3 => unfold maxLen; omega
        case c4 => omega
        case c5 => have := hsz2.out; simp; omega
        · intro v' w2 hown' hgrow _
          have hsz2 := hsz2.out
          have hbel' := Mem.zg4 hbel2 (Nat.le_refl _) hown2 hgrow
          have hown3 : w2.ownsRow w.heap.size 9 1 v' (L ++ [s.extract fr pos]).length ((L ++ [s.extract fr pos]).map Value.string) := by simpa using hown'
          have hit3 : w2.heap[w.heap.size + 1]? = some (.stringIter s (pos + 1)) :=
            (hgrow.block (w.heap.size + 1) (by simp; omega) hne).trans ((Below.heap_alloc _ _ _ (by omega)).trans hit2)
          have hip3 : w2.iterPos (w.heap.size + 1) = pos + 1 := by simp only [World.iterPos, hit3]
          clear hgrow hown2 hbel2 hown' hnx hit2
          go_wp2
          go_roundw
          case rel => exact ⟨pos + 1, pos + 1, L ++ [s.extract fr pos], by omega, by omega, by simp; omega, by go_num, hown3, hit3, hbel', H2⟩
          case measure => rw [hip3, hip]; omega
      · obtain ⟨r1, r2, r3, r4⟩ := Pl.rune_other s pos hlt hq
        have hnx : ∀ ty, (Instr.next (.pointer (some ⟨w.heap.size + 1, 0, none⟩)) true ty).run Tryz.prog wr = .ok (.tuple #[.bool true, .int .i64 pos, .int .i32 (Utf8.decode s pos).1]) (wr.iterAt (w.heap.size + 1) s (pos + (Utf8.decode s pos).2)) := fun ty =>
          Lib.run_next_any_at wr (w.heap.size + 1) s pos ty hit hlt
        have H2 : Hid (Pl.cut s 47 = L ++ Pl.cutF s 47 (s.size - (pos + (Utf8.decode s pos).2)) fr (pos + (Utf8.decode s pos).2)) := by
          show _ = _
          rw [H.out, Pl.cutF_over _ pos r3 r4]
        have hown2 := Mem.own_iterAt hown hit (pos + (Utf8.decode s pos).2)
        have hit2 := Lib.iterAt_heap wr (w.heap.size + 1) s pos (pos + (Utf8.decode s pos).2) hit
        have hbel2 := Lib.below_iterAt hbel (k := w.heap.size + 1) (by omega) s (pos + (Utf8.decode s pos).2)
        have hip2 : (wr.iterAt (w.heap.size + 1) s (pos + (Utf8.decode s pos).2)).iterPos (w.heap.size + 1) = pos + (Utf8.decode s pos).2 := by simp only [World.iterPos, hit2]
        have t4 : (((Utf8.decode s pos).1 : Int) == 47) = false := by rw [beq_eq_false_iff_ne]; omega
        generalize hD : (Utf8.decode s pos).2 = n at *
        generalize (Utf8.decode s pos).1 = r at *
        generalize wr.iterAt (w.heap.size + 1) s (pos + n) = w1 at *
        clear H hq hown hit hbel r4 hD r1
        go_wp2
        go_roundw
        case rel => exact ⟨pos + n, fr, L, r3, by omega, by omega, rfl, hown2, hit2, hbel2, H2⟩
        case measure => rw [hip2, hip]; omega
    · obtain rfl : pos = s.size := by omega
      have hnx : ∀ ty, (Instr.next (.pointer (some ⟨w.heap.size + 1, 0, none⟩)) true ty).run Tryz.prog wr = .ok (.tuple #[.bool false]) wr := fun ty => Lib.run_next_end_at wr (w.heap.size + 1) s s.size ty hit hlt
      have H2 : Hid (Pl.cut s 47 = L ++ [s.extract fr s.size]) := by
        show _ = _
        rw [H.out, Nat.sub_self]; rfl
      have t1 : (0 : Int) ≤ (fr : Int) := by omega
      have t2 : (fr : Int) ≤ (s.size : Int) := by omega
      clear H
      go_wp2_with (at_builtin; refine wpList_append_own _ rfl _ _ 33 rfl w.heap.size 9 i0 (.string ⟨#[]⟩) 1 16 Tryz.underlying33 hi hz0 hz1 hz2 rfl (by decide) _ _ _ rfl (hown.alloc _) ⟨wr.heap.size, 0, none⟩ 1 1 [.string (s.extract fr s.size)] rfl rfl ?c1 ?c2 ?c3 ?c4 ?c5 ?_)
      case c1 => exact Mem.ze6 _ _ _
      case c2 => intro u hu; simp at hu; subst hu; rfl
      case c3 => unfold maxLen; omega
      case c4 => omega
      case c5 => simp; omega
      · intro v' w2 hown' hgrow _
        have hbel' := Mem.zg4 hbel (Nat.le_refl _) hown hgrow
        have hown2 : w2.ownsRow w.heap.size 9 1 v' (Pl.cut s 47).length ((Pl.cut s 47).map Value.string) := by rw [H2.out]; simpa using hown'
        clear hgrow hown hbel hown'
        go_wp2
        go_ret
        exact ⟨_, rfl, hown2, hbel'⟩
end WWords
end
section
open Go.RowKit
namespace WName

theorem zt1 (s:ByteArray) (w:World) (hs:s.size≤maxLen):
  Calls Tryz.prog 74 #[.string s] w fun e w'=>e= .returned (.bool (Pl.zb8 s))∧w'=w:=by
 unfold maxLen at hs;by_cases h1:s.size<1
 ·have e0:=hide (Pl.yg4 h1);go_enter Tryz.func74,Tryz.ntmps74
  go_wp2
  go_ret
  exact ⟨za1 (za e0).symm,rfl⟩
 by_cases h2:20<s.size
 ·have e0:=hide (Pl.yc h2);go_enter Tryz.func74,Tryz.ntmps74
  go_wp2
  go_ret
  exact ⟨za1 (za e0).symm,rfl⟩
 go_enter Tryz.func74,Tryz.ntmps74
 go_wp2
 go_loop [3] (fun i=>∃k:Nat,k≤s.size∧i= .int .i64 k∧Hid (∀j,j<k→Pl.okAt j ((s.data.toList.getD j 0).toNat))) (fun i=>s.size - (intOf i).toNat)
 case atStart=>exact ⟨0,Nat.zero_le _,rfl,fun j hj=>absurd hj (by omega)⟩
 case round=>
  obtain ⟨k,hk,rfl,hok⟩:=hrel;by_cases hlt:k<s.size
  ·by_cases hk0:k=0
   ·subst hk0;have okc:∀n:Nat,Pl.okAt 0 n↔(97≤n∧n≤122):=fun n=>by unfold Pl.okAt;omega
    have OK:=hide okc;clear okc
    rcases Pl.kinds (s[0].toNat:Int) with ⟨a1,a2⟩|⟨a1,a2,a3,a4⟩|⟨a1,a2,a3,a4⟩|⟨a1,a2,a3,a4⟩|⟨a1,a2,a3⟩|⟨a1,a2,a3,a4,a5⟩
    ·go_wp2
     go_round
     case rel=>exact ⟨1,by omega,rfl,Pl.zz9 hok.out hlt ((za OK _).2 (by omega))⟩
     case measure=>simp [intOf];omega
    all_goals
     go_wp2
     go_ret
     exact ⟨za1 (Pl.zu7 0 hlt (by rw [za OK];omega)).symm,rfl⟩
   ·have hkb:((k:Int)==0)=false:=by simp;omega
    have okc:∀n:Nat,Pl.okAt k n↔(97≤n∧n≤122)∨(48≤n∧n≤57)∨n=95:=fun n=>by unfold Pl.okAt;omega
    have OK:=hide okc;clear okc
    rcases Pl.kinds (s[k].toNat:Int) with ⟨a1,a2⟩|⟨a1,a2,a3,a4⟩|⟨a1,a2,a3,a4⟩|⟨a1,a2,a3,a4⟩|⟨a1,a2,a3⟩|⟨a1,a2,a3,a4,a5⟩
    ·go_wp2
     go_round
     case rel=>exact ⟨k+1,by omega,by go_num,Pl.zz9 hok.out hlt ((za OK _).2 (by omega))⟩
     case measure=>simp [intOf];omega
    ·go_wp2
     go_round
     case rel=>exact ⟨k+1,by omega,by go_num,Pl.zz9 hok.out hlt ((za OK _).2 (by omega))⟩
     case measure=>simp [intOf];omega
    ·go_wp2
     go_ret
     exact ⟨za1 (Pl.zu7 k hlt (by rw [za OK];simp at a4;omega)).symm,rfl⟩
    ·go_wp2
     go_round
     case rel=>exact ⟨k+1,by omega,by go_num,Pl.zz9 hok.out hlt ((za OK _).2 (by simp at a4;omega))⟩
     case measure=>simp [intOf];omega
    all_goals
     go_wp2
     go_ret
     exact ⟨za1 (Pl.zu7 k hlt (by rw [za OK];omega)).symm,rfl⟩
  ·have e0:Pl.zb8 s=true:=Pl.yi9 h1 h2 (fun j hj=>hok.out j (by omega));have E0:=hide e0;clear e0;go_wp2
   go_ret
   exact ⟨za1 (za E0).symm,rfl⟩

theorem zx9 (s:ByteArray) (w:World) (hs:s.size≤maxLen):
  Calls Tryz.prog 127 #[.string s] w fun e w'=>e= .returned (.bool (Pl.zb8 s))∧w'=w:=by
 unfold maxLen at hs;by_cases h1:s.size<1
 ·have e0:=hide (Pl.yg4 h1);go_enter Tryz.func127,Tryz.ntmps127
  go_wp2
  go_ret
  exact ⟨za1 (za e0).symm,rfl⟩
 by_cases h2:20<s.size
 ·have e0:=hide (Pl.yc h2);go_enter Tryz.func127,Tryz.ntmps127
  go_wp2
  go_ret
  exact ⟨za1 (za e0).symm,rfl⟩
 have hp:0<s.size:=by omega
 by_cases hl:97≤(s[0].toNat:Int)∧(s[0].toNat:Int)≤122
 ·obtain ⟨l1,l2⟩:=hl;have H0:Hid (Pl.okAt 0 s[0].toNat):=Or.inl (by omega);go_enter Tryz.func127,Tryz.ntmps127
  go_wp2
  go_loop [21] (fun i=>∃k:Nat,k≤s.size∧i= .int .i64 k∧Hid (∀j,j<k→Pl.okAt j ((s.data.toList.getD j 0).toNat))) (fun i=>s.size - (intOf i).toNat)
  case atStart=>exact ⟨0,Nat.zero_le _,rfl,fun j hj=>absurd hj (by omega)⟩
  case round=>
   obtain ⟨k,hk,rfl,hok⟩:=hrel;by_cases hlt:k<s.size
   ·have hstep:Hid ((97≤s[k].toNat∧s[k].toNat≤122)∨(48≤s[k].toNat∧s[k].toNat≤57)∨s[k].toNat=95→∀j,j<k+1→Pl.okAt j ((s.data.toList.getD j 0).toNat)):=by
     intro ho;refine Pl.zz9 hok.out hlt ?_;by_cases hk0:k=0
     ·subst hk0;exact H0
     ·unfold Pl.okAt;omega
    have hbad:Hid (¬ ((97≤s[k].toNat∧s[k].toNat≤122)∨(48≤s[k].toNat∧s[k].toNat≤57)∨s[k].toNat=95)→Pl.zb8 s=false):=by
     intro hn;exact Pl.zu7 k hlt (by unfold Pl.okAt;omega)
    clear l1 l2 H0 hok
    rcases Pl.kinds (s[k].toNat:Int) with ⟨a1,a2⟩|⟨a1,a2,a3,a4⟩|⟨a1,a2,a3,a4⟩|⟨a1,a2,a3,a4⟩|⟨a1,a2,a3⟩|⟨a1,a2,a3,a4,a5⟩
    ·go_wp2
     go_round
     case rel=>exact ⟨k+1,by omega,by go_num,hstep.out (by omega)⟩
     case measure=>simp [intOf];omega
    ·go_wp2
     go_round
     case rel=>exact ⟨k+1,by omega,by go_num,hstep.out (by omega)⟩
     case measure=>simp [intOf];omega
    ·go_wp2
     go_ret
     exact ⟨za1 (hbad.out (by simp at a4;omega)).symm,rfl⟩
    ·go_wp2
     go_round
     case rel=>exact ⟨k+1,by omega,by go_num,hstep.out (by simp at a4;omega)⟩
     case measure=>simp [intOf];omega
    all_goals
     go_wp2
     go_ret
     exact ⟨za1 (hbad.out (by omega)).symm,rfl⟩
   ·have e0:Pl.zb8 s=true:=Pl.yi9 h1 h2 (fun j hj=>hok.out j (by omega));have E0:=hide e0;clear e0;go_wp2
    go_ret
    exact ⟨za1 (za E0).symm,rfl⟩
 ·have e0:Pl.zb8 s=false:=Pl.zu7 0 hp (by unfold Pl.okAt;omega);have E0:=hide e0;clear e0;by_cases g1:97≤(s[0].toNat:Int)
  ·have g2:¬ (s[0].toNat:Int)≤122:=by omega
   clear hl;go_enter Tryz.func127,Tryz.ntmps127
   go_wp2
   go_ret
   exact ⟨za1 (za E0).symm,rfl⟩
  ·clear hl;go_enter Tryz.func127,Tryz.ntmps127
   go_wp2
   go_ret
   exact ⟨za1 (za E0).symm,rfl⟩
end WName
end
section
open Go.RowKit
namespace Mem
theorem texts {w:World} {B T:Nat} {v:Value} {L:List ByteArray} (h:w.ownsRow B T 1 v L.length (L.map Value.string)):
  (v= .slice none 0 0∧L=[])∨∃g cap,v= .slice (some ⟨g,0,none⟩) L.length cap∧L.length≤cap∧cap≤maxLen∧B≤g∧g<w.heap.size∧∀ (k:Nat) t,L[k]? =some t→w.cell? ⟨g,k,none⟩=some (.string t):=by
 rcases h.2 with ⟨rfl,h0⟩|⟨g,cap,cur,rfl,hgb,hg,hcap,hm,hsz,htk⟩
 ·exact .inl ⟨rfl,List.eq_nil_of_length_eq_zero h0⟩
 ·refine .inr ⟨g,cap,rfl,hcap,hm,hgb,(Array.getElem?_eq_some_iff.1 hg).1,fun k t ht=>?_⟩;have hk:=(List.getElem?_eq_some_iff.1 ht).1;rw [cell_of_row w g k cur T (0,0) hg];have h1:(cur.toList.take (L.length*1))[k]? =(L.map Value.string)[k]?:=by rw [htk]
  rw [List.getElem?_take_of_lt (by omega),List.getElem?_map,ht] at h1
  simpa using h1
theorem one_str (t:ByteArray):∀u∈[Value.string t],u.oneCell'=true:=by
 intro u hu;simp at hu;subst hu;rfl
def zd4 (w:World) (v:Value) (ts:List ByteArray):Prop:=
 (v= .slice none 0 0∧ts=[])∨∃b o cap,v= .slice (some ⟨b,o,none⟩) ts.length cap∧b<w.heap.size∧∀ (j:Nat) t,ts[j]? =some t→w.cell? ⟨b,o+j,none⟩=some (.string t)
theorem zd7 {w:World} {B T:Nat} {v:Value} {L:List ByteArray} (h:w.ownsRow B T 1 v L.length (L.map Value.string)):zd4 w v L:=by
 rcases texts h with h|⟨g,cap,h1,h2,h3,h4,h5,h6⟩
 ·exact .inl h
 ·exact .inr ⟨g,0,cap,h1,h5,fun j t ht=>by rw [Nat.zero_add];exact h6 j t ht⟩
theorem take_texts {w:World} {g cap:Nat} {L:List ByteArray} (hg:g<w.heap.size) (hc:∀ (k:Nat) t,L[k]? =some t→w.cell? ⟨g,k,none⟩=some (.string t)) (n:Nat) (hn:n≤L.length):
  zd4 w (.slice (some ⟨g,0,none⟩) n cap) (L.take n):=by
 refine .inr ⟨g,0,cap,by rw [List.length_take,Nat.min_eq_left hn],hg,fun j t ht=>?_⟩;rw [Nat.zero_add];refine hc j t ?_;have hj:j<n:=by have :=(List.getElem?_eq_some_iff.1 ht).1;rw [List.length_take] at this;omega
 rwa [List.getElem?_take_of_lt hj] at ht
theorem yi5 {w:World} {g cap:Nat} {L:List ByteArray} (hg:g<w.heap.size) (hc:∀ (k:Nat) t,L[k]? =some t→w.cell? ⟨g,k,none⟩=some (.string t)) (n:Nat):
  zd4 w (.slice (some ⟨g,n,none⟩) (L.length - n) cap) (L.drop n):=by
 refine .inr ⟨g,n,cap,by rw [List.length_drop],hg,fun j t ht=>?_⟩;refine hc (n+j) t ?_
 rwa [List.getElem?_drop] at ht
theorem own_below {w w':World} {B B' e size n:Nat} {v:Value} {xs:List Value} (h:w.ownsRow B e size v n xs) (hb:Below B' w w') (hB:∀k,v.ownBlock=some k→k<B'):w'.ownsRow B e size v n xs:=by
 refine ⟨h.1,?_⟩
 rcases h.2 with h0|⟨g,cap,cur,rfl,hgb,hg,rest⟩
 ·exact .inl h0
 ·exact .inr ⟨g,cap,cur,rfl,hgb,(hb.block g (hB g rfl)).trans hg,rest⟩
theorem zd0 {w w':World} {B e size n:Nat} {v:Value} {xs:List Value} (h:w.ownsRow B e size v n xs) (hb:Below w.heap.size w w'):w'.ownsRow B e size v n xs:=
 own_below h hb (fun k hk=>(h.lt k hk).2)
theorem zs9 {w w':World} {v:Value} {ts:List ByteArray} (h:zd4 w v ts) (hb:Below w.heap.size w w'):zd4 w' v ts:=by
 rcases h with h|⟨b,o,cap,rfl,hlt,hc⟩
 ·exact .inl h
 ·exact .inr ⟨b,o,cap,rfl,Nat.lt_of_lt_of_le hlt hb.size,fun j t ht=>(hb.cell (p:=⟨b,o+j,none⟩) hlt).trans (hc j t ht)⟩
theorem below_drewN {B:Nat} {a w:World} (h:Below B a w) (q:Nat):Below B a (w.drewN q):=h.trans ⟨rfl,rfl,rfl,Nat.le_refl _,fun _ _=>rfl⟩
theorem zj4 {w:World} {v:Value} {ts:List ByteArray} (h:zd4 w v ts):∃a cap,v= .slice a ts.length cap:=by
 rcases h with ⟨rfl,rfl⟩|⟨b,o,cap,rfl,_⟩ <;> exact ⟨_,_,rfl⟩
theorem own_textsN {w:World} {B T n:Nat} {v:Value} {L:List ByteArray} (h:w.ownsRow B T 1 v n (L.map Value.string)) (hn:L.length=n):zd4 w v L:=by
 subst hn;exact zd7 h
end Mem
end
section
open Go.RowKit
namespace zu6
theorem any (s:ByteArray) (w:World) (hs:s.size≤1048576):
  Calls Tryz.prog 113 #[.string s] w fun e w'=>∃v,e= .returned (.tuple #[v, .bool (Pl.za0 s)])∧
   w'.ownsRow w.heap.size 9 1 v (Pl.za6 s).length ((Pl.za6 s).map Value.string)∧Below w.heap.size w w':=by
 by_cases h0:s.size=0
 ·have E:=hide (Pl.zj1 h0).1;have E2:=hide ((Pl.zc1 (Pl.zj1 h0).1).trans (Pl.zj1 h0).2);obtain rfl:s=⟨#[]⟩:=by apply ByteArray.ext;exact Array.eq_empty_of_size_eq_zero h0
  go_enter Tryz.func113,Tryz.ntmps113
  go_wp2
  go_ret2
  refine ⟨.slice none 0 0,by rw [za E];rfl,?_,Below.refl _ _⟩;rw [za E2];exact World.ownsRow_nil _ _ _ _
 have t0:s.toList.isEmpty=false:=by
  rw [List.isEmpty_eq_false_iff,ByteArray.toList_eq];intro h;have h1:s.data.toList.length=0:=by rw [h];rfl
  rw [Array.length_toList] at h1;exact h0 h1
 have E1:Hid (Pl.names s=Pl.cut s 47):=if_neg h0;by_cases h8:8000<s.size
 ·have E:=hide (Pl.zp6 (s:=s) (by omega));have E2:=hide (Pl.zy (za E));go_enter Tryz.func113,Tryz.ntmps113
  go_wp2
  go_ret2
  refine ⟨.slice none 0 0,by rw [za E];rfl,?_,Below.refl _ _⟩;rw [za E2];exact World.ownsRow_nil _ _ _ _
 have hpos:=Pl.cut_pos s;have hlen:=Pl.cut_length s
 have HSZ:Hid (∀ (k:Nat) t,(Pl.cut s 47)[k]? =some t→t.size≤maxLen):=fun k t ht=>by
  have :=Pl.cut_size ht;unfold maxLen;omega
 have HLONG:Hid (6<(Pl.cut s 47).length→Pl.za0 s=false):=fun h=>by
  rw [Pl.zz2,E1.out];simp;intro _;omega
 have HBAD:Hid (∀ (k:Nat) t,(Pl.cut s 47)[k]? =some t→Pl.zb8 t=false→Pl.za0 s=false):=fun k t ht hb=>Pl.pathB_bad (by rw [E1.out];exact ht) hb
 have HGOOD:Hid ((Pl.cut s 47).length≤6→(∀ (j:Nat) t,(Pl.cut s 47)[j]? =some t→Pl.zb8 t=true)→Pl.za0 s=true∧Pl.za6 s=Pl.cut s 47):=fun h6 h=>by
  have h1:Pl.za0 s=true:=by
   rw [Pl.zz2,E1.out];simp [h6]
   intro t ht;obtain ⟨j,hj⟩:=List.mem_iff_getElem?.1 ht;exact h j t hj
  exact ⟨h1,by rw [Pl.zc1 h1,E1.out]⟩
 have hn:=hide (WWords.any s w hs);generalize Pl.cut s 47=L at hn hlen HSZ HBAD HGOOD HLONG hpos;go_enter Tryz.func113,Tryz.ntmps113
 go_wp2_with fail
 refine (za hn).mono ?_;rintro e w1 ⟨v,rfl,hown,hbel⟩;have HO:=hide hown
 rcases Mem.texts hown with ⟨rfl,rfl⟩|⟨g,cap,rfl,hcap,hm,hgb,hgl,hcell⟩
 ·simp at hpos
 have HC:=hide hcell;clear hcell hown hn;have hm2:=hm;unfold maxLen at hm2;by_cases h6:6<L.length
 ·have E:=hide (HLONG.out h6);have E2:=hide (Pl.zy (za E));go_wp2
  go_ret2
  refine ⟨.slice none 0 0,by rw [za E];rfl,?_,hbel⟩;rw [za E2];exact World.ownsRow_nil _ _ _ _
 go_wp2
 go_loop [19] (fun i=>∃k:Nat,k≤L.length∧i= .int .i64 (k:Int)∧Hid (∀ (j:Nat) t,j<k→L[j]? =some t→Pl.zb8 t=true)) (fun i=>L.length - (intOf i).toNat)
 case atStart=>exact ⟨0,Nat.zero_le _,rfl,fun j t h=>absurd h (by omega)⟩
 case round=>
  obtain ⟨k,hk,rfl,HA⟩:=hrel;by_cases hlt:k<L.length
  ·obtain ⟨t,ht⟩:∃t,L[k]? =some t:=⟨_,List.getElem?_eq_getElem hlt⟩;have hc:=HC.out k t ht;have hts:=HSZ.out k t ht;cases hb:Pl.zb8 t
   ·have E:=hide (HBAD.out k t ht hb);have E2:=hide (Pl.zy (za E));have HB:=hide hb;clear ht hb;go_wp2_with (go_at_call 127;refine (WName.zx9 t _ hts).mono ?_;rw [za HB];rintro e w' ⟨rfl,hw⟩;obtain rfl:=hw.symm)
    go_ret2
    refine ⟨.slice none 0 0,by rw [za E];rfl,?_,hbel⟩;rw [za E2];exact World.ownsRow_nil _ _ _ _
   ·have HB:=hide hb
    have HA2:Hid (∀ (j:Nat) t,j<k+1→L[j]? =some t→Pl.zb8 t=true):=fun j t' hj h'=>by
     rcases Nat.lt_succ_iff_lt_or_eq.1 hj with h''|rfl
     ·exact HA.out j t' h'' h'
     ·rw [ht] at h';cases h';exact hb
    clear ht hb HA;go_wp2_with (go_at_call 127;refine (WName.zx9 t _ hts).mono ?_;rw [za HB];rintro e w' ⟨rfl,hw⟩;obtain rfl:=hw.symm)
    go_round
    case rel=>exact ⟨k+1,by omega,by go_num,HA2⟩
    case measure=>simp [intOf];omega
  ·have E:=hide (HGOOD.out (by omega) (fun j t h=>HA.out j t (by have :=(List.getElem?_eq_some_iff.1 h).1;omega) h));clear HA;go_wp2
   go_ret2
   exact ⟨.slice (some ⟨g,0,none⟩) L.length cap,by rw [(za E).1];rfl,by rw [(za E).2];exact za HO,hbel⟩
end zu6
end
section
open Go.RowKit
namespace WJoin
theorem Tryz.one8 (w:World):(sizeOf 5).run Tryz.prog w= .ok 1 w:=by kernel_rfl
theorem Tryz.info8j:(Tryz.prog.info? 5).map (fun i=>(i.zero,i.size,i.bytes))=some (some (.int .u8 0),1,1):=by kernel_rfl

theorem any (b o cap:Nat) (ts:List ByteArray) (w:World) (hn:ts.length≤1000000) (ht:Pl.tot ts≤1000000000)
  (hcell:∀j t,ts[j]? =some t→w.cell? ⟨b,o+j,none⟩=some (.string t)) (hb:b<w.heap.size):
  Calls Tryz.prog 92 #[.slice (some ⟨b,o,none⟩) ts.length cap] w fun e w'=>e= .returned (.string ⟨(Pl.cat ts).toArray⟩)∧Below w.heap.size w w':=by
 have HC:=hide hcell;clear hcell;go_enter Tryz.func92,Tryz.ntmps92
 go_wp2
 go_loop [3,12] (fun n i=>∃k:Nat,k≤ts.length∧i= .int .i64 k∧n= .int .i64 (Pl.tot (ts.take k):Nat)) (fun _ i=>ts.length - (intOf i).toNat)
 case atStart=>exact ⟨0,Nat.zero_le _,rfl,rfl⟩
 case round=>
  obtain ⟨k,hk,rfl,rfl⟩:=hrel;by_cases hlt:k<ts.length
  ·obtain ⟨t,hkt⟩:∃t,ts[k]? =some t:=⟨_,List.getElem?_eq_getElem hlt⟩;have hc:=za HC k t hkt;have H1:=hide (Pl.tot_snoc ts k t hkt);have h1:=Pl.tot_le ts (k+1);have h2:Pl.tot (ts.take k)+t.size≤1000000000:=by have :=za H1;omega
   clear hkt h1;go_wp2
   go_round
   case rel=>exact ⟨k+1,by omega,by go_num,by rw [za H1];go_num⟩
   case measure=>simp [intOf];omega
  ·have HE:Hid (Pl.tot (ts.take k)=Pl.tot ts):=by
    show _=_;rw [List.take_of_length_le (by omega)]
   have hmk:=Mem.make_bytes (P:=Tryz.prog) Tryz.underlying190 Tryz.info8j (Pl.tot ts) ht w;rw [HE.out];go_wp2
   go_loopw [7,25] (fun p i wr=>∃ (k:Nat) (cur:Array Value),k≤ts.length∧i= .int .i64 k∧p= .int .i64 (Pl.tot (ts.take k):Nat)∧wr.heap[w.heap.size]? =some (.cells cur 5 (0,0))∧cur.size=Pl.tot ts∧
     Hid (cur.toList.take (Pl.tot (ts.take k))=(Pl.cat (ts.take k)).map Pl.zf)∧Below w.heap.size w wr) (fun _ i _=>ts.length - (intOf i).toNat)
   case atStart=>exact ⟨0,Mem.zeros (Pl.tot ts),Nat.zero_le _,rfl,rfl,heap_alloc_new w _,Mem.zeros_size _,rfl,(Below.refl _ _).alloc (Nat.le_refl _) _⟩
   case round=>
    obtain ⟨k,cur,hk,rfl,rfl,hrow,hcs,HP,hbel⟩:=hrel;by_cases hlt:k<ts.length
    ·obtain ⟨t,hkt⟩:∃t,ts[k]? =some t:=⟨_,List.getElem?_eq_getElem hlt⟩;have hc:wr.cell? ⟨b,o+k,none⟩=some (.string t):=(hbel.cell (p:=⟨b,o+k,none⟩) hb).trans (za HC k t hkt);have H1:=hide (Pl.tot_snoc ts k t hkt);have h1:=Pl.tot_le ts (k+1);have h2:Pl.tot (ts.take k)+t.size≤Pl.tot ts:=by have :=za H1;omega
     have HS:=hide (Pl.part_step hkt HP.out);obtain ⟨D,w2,hsl,hcp,hrow2,hbel2⟩:=Mem.copy_on (P:=Tryz.prog) (sT:=9) Tryz.underlying190 Tryz.one8 wr w.heap.size (Pl.tot (ts.take k)) (Pl.tot ts) cur hrow hcs t h2;have HROW2:=hide hrow2;have HB2:=hide (hbel.trans hbel2)
     have hsz:Hid ((cur.toList.take (Pl.tot (ts.take k))++t.data.toList.map Pl.zf++cur.toList.drop (Pl.tot (ts.take k)+t.size)).toArray.size=Pl.tot ts):=by
      show _=_;have :t.data.size=t.size:=rfl;simp [this]
      omega
     clear hkt h1 hrow hrow2 hbel2 hbel;go_wp2
     go_roundw
     case rel=>exact ⟨k+1,_,by omega,by go_num,by rw [za H1];go_num,HROW2,hsz,HS,HB2⟩
     case measure=>simp [intOf];omega
    ·have HE2:Hid (Pl.cat (ts.take k)=Pl.cat ts∧Pl.tot (ts.take k)=Pl.tot ts):=by
      show _∧_;rw [List.take_of_length_le (by omega)];exact ⟨rfl,rfl⟩
     have hp:cur.toList.take (Pl.tot ts)=(Pl.cat ts).map Pl.zf:=by have :=HP.out;rwa [HE2.out.1,HE2.out.2] at this
     have hcv:=Mem.row_text (P:=Tryz.prog) (cap:=Pl.tot ts) Tryz.underlying190 Tryz.underlying5 Tryz.underlying9 (Pl.cat ts) (Pl.ya6 ts) hrow hp;clear hp hrow;go_wp2
     go_ret
     exact ⟨rfl,hbel⟩
end WJoin
end
section
open Go.RowKit
namespace Pl
def zc5 (ts:List ByteArray):Nat→List ByteArray
 |0=>[]
 |k+1=>zc5 ts k++(if k=0 then [] else [⟨#[47]⟩])++[ts.getD k ⟨#[]⟩]
theorem glueL_snoc (A:List (List UInt8)) (a:List UInt8):zf7 (A++[a])=zf7 A++(if A=[] then [] else [47])++a:=by
 by_cases h:A=[]
 ·subst h;rfl
 ·rw [zs7 h (by simp),if_neg h];simp [zf7]
theorem yk9 (A B:List ByteArray):cat (A++B)=cat A++cat B:=by simp [cat]
theorem parts_cat (ts:List ByteArray):∀k,k≤ts.length→cat (zc5 ts k)=zf7 ((ts.take k).map by_):=by
 intro k
 induction k with
 |zero=>intro _;rfl
 |succ k ih=>
  intro hk;have hlt:k<ts.length:=by omega
  rw [zc5,yk9,yk9,ih (by omega),List.take_add_one,List.getElem?_eq_getElem hlt,Option.toList_some,List.map_append,List.map_cons,List.map_nil,glueL_snoc,cat_one];have h1:ts.getD k ⟨#[]⟩=ts[k]:=by simp [List.getD_eq_getElem?_getD,List.getElem?_eq_getElem hlt]
  rw [h1]
  have h2:cat (if k=0 then [] else [(⟨#[47]⟩:ByteArray)])=if (ts.take k).map by_=[] then [] else [47]:=by
   by_cases h0:k=0
   ·subst h0;rfl
   ·rw [if_neg h0,if_neg (by simp;exact ⟨h0,by intro e;subst e;simp at hlt⟩)];rfl
  rw [h2];rfl
theorem parts_glue (ts:List ByteArray):(⟨(cat (zc5 ts ts.length)).toArray⟩:ByteArray)=glue ts:=by
 rw [parts_cat ts _ (Nat.le_refl _),List.take_length];rfl
theorem parts_tot (ts:List ByteArray):tot (zc5 ts ts.length)=(glue ts).size:=by
 rw [←ya6,parts_cat ts _ (Nat.le_refl _),List.take_length,←zl7,zc8]
theorem parts_length (ts:List ByteArray):∀k,(zc5 ts k).length≤2*k:=by
 intro k
 induction k with
 |zero=>simp [zc5]
 |succ k ih=>
  rw [zc5];by_cases h:k=0
  ·simp [h,zc5]
  ·simp [h];omega
theorem parts_first {ts:List ByteArray} {t:ByteArray} (ht:ts[0]? =some t):zc5 ts 1=zc5 ts 0++[t]:=by
 simp [zc5,List.getD_eq_getElem?_getD,ht]
theorem parts_next {ts:List ByteArray} {k:Nat} {t:ByteArray} (hk:k≠0) (ht:ts[k]? =some t):zc5 ts (k+1)=(zc5 ts k++[⟨#[47]⟩])++[t]:=by
 simp [zc5,List.getD_eq_getElem?_getD,ht,hk]
end Pl
namespace zk3
theorem make12 (w:World):(Instr.makeSlice 33 (.int .i64 0) (.int .i64 12)).run Tryz.prog w= .ok (.slice (some ⟨w.heap.size,0,none⟩) 0 12) (w.alloc (.cells (madeCells (Value.string ⟨#[]⟩).cells 12) 9)):=by
 obtain ⟨i0,h0,h1,h2,h3⟩:=info_parts WWords.zq6;have h:=run_make (P:=Tryz.prog) w 33 9 i0 (.string ⟨#[]⟩) Tryz.underlying33 h0 h1 .i64 .i64 0 12 (by omega) (by omega) (by rw [h3];omega) (by omega);rw [h];simp [h2]

theorem any (v:Value) (ts:List ByteArray) (w:World) (hn:ts.length≤1000) (hg:(Pl.glue ts).size≤1000000) (hv:Mem.zd4 w v ts):
  Calls Tryz.prog 128 #[v] w fun e w'=>e= .returned (.string (Pl.glue ts))∧Below w.heap.size w w':=by
 obtain ⟨i0,hi,hz0,hz1,hz2⟩:=info_parts WWords.zq6;have hmk:=make12;have H0:Hid ((⟨(Pl.cat (Pl.zc5 ts ts.length)).toArray⟩:ByteArray)=Pl.glue ts):=Pl.parts_glue ts;have H1:Hid (Pl.tot (Pl.zc5 ts ts.length)≤1000000000):=by have :=Pl.parts_tot ts;show _≤_;omega
 by_cases hts:ts=[]
 ·subst hts
  have hv2:∃a cap,v= .slice a 0 cap:=by
   rcases hv with ⟨rfl,_⟩|⟨b,o,cap,rfl,_⟩
   ·exact ⟨_,_,rfl⟩
   ·exact ⟨_,_,rfl⟩
  obtain ⟨a,cap,rfl⟩:=hv2;go_enter Tryz.func128,Tryz.ntmps128
  go_wp2
  go_loop [3,9] (fun p i=>p= .slice (some ⟨w.heap.size,0,none⟩) 0 12∧i= .int .i64 0) (fun _ _=>0)
  case atStart=>exact ⟨rfl,rfl⟩
  case round=>
   obtain ⟨rfl,rfl⟩:=hrel;go_wp2_with fail
   refine (WJoin.any w.heap.size 0 12 [] _ (by simp) (by simp [Pl.tot]) (fun j t h=>by simp at h) (by simp)).mono ?_;rintro e w1 ⟨rfl,hb1⟩;go_wp2
   go_ret
   exact ⟨rfl,(bE0).trans (hb1.mono (by simp))⟩
 have hpos:0<ts.length:=List.length_pos_iff.2 hts
 have HNE:Hid (Pl.zc5 ts ts.length≠[]):=by
  intro h;obtain ⟨n,hn⟩:∃n,ts.length=n+1:=⟨ts.length - 1,by omega⟩;rw [hn,Pl.zc5] at h;simp at h
 rcases hv with ⟨rfl,rfl⟩|⟨b,o,cap,rfl,hb,hcell⟩
 ·exact absurd rfl hts
 ·have HC:=hide hcell;clear hcell;go_enter Tryz.func128,Tryz.ntmps128
  go_wp2
  go_loopw [3,9] (fun p i wr=>∃k:Nat,k≤ts.length∧i= .int .i64 (k:Int)∧wr.ownsRow w.heap.size 9 1 p (Pl.zc5 ts k).length ((Pl.zc5 ts k).map Value.string)∧Below w.heap.size w wr) (fun _ i _=>ts.length - (intOf i).toNat)
  case atStart=>exact ⟨0,Nat.zero_le _,rfl,World.ownsRow_made _ _ 12 (Nat.le_refl _) (by unfold maxLen;omega) (size_madeCells _ _),bE0⟩
  case round=>
   obtain ⟨k,hk,rfl,hown,hbel⟩:=hrel;have hb1:=hbel.size;have hpl:=Pl.parts_length ts k;by_cases hlt:k<ts.length
   ·obtain ⟨t,hkt⟩:∃t,ts[k]? =some t:=⟨_,List.getElem?_eq_getElem hlt⟩;have hc:wr.cell? ⟨b,o+k,none⟩=some (.string t):=(hbel.cell (p:=⟨b,o+k,none⟩) hb).trans (za HC k t hkt);by_cases h0:k=0
    ·have HS:Hid (Pl.zc5 ts (k+1)=Pl.zc5 ts k++[t]):=by subst h0;exact Pl.parts_first hkt
     have hp:¬ (0:Int)<(k:Int):=by omega
     clear hkt h0;go_wp2_with (at_builtin;refine wpList_append_own _ rfl _ _ 33 rfl w.heap.size 9 i0 (.string ⟨#[]⟩) 1 16 Tryz.underlying33 hi hz0 hz1 hz2 rfl (by decide) _ _ _ rfl (hown.alloc _) ⟨wr.heap.size,0,none⟩ 1 1 [.string t] rfl rfl (Mem.ze6 _ _ _) (Mem.one_str _) (by unfold maxLen;omega) (by omega) (by simp;omega) ?_)
     ·intro v' w2 hown' hgrow _;have hbel':=Mem.zg4 hbel (Nat.le_refl _) hown hgrow
      have hown2:Hid (w2.ownsRow w.heap.size 9 1 v' (Pl.zc5 ts (k+1)).length ((Pl.zc5 ts (k+1)).map Value.string)):=by
       show World.ownsRow _ _ _ _ _ _ _;rw [za HS];simpa using hown'
      clear hgrow hown hbel hown' hc;go_wp2
      go_roundw
      case rel=>exact ⟨k+1,by omega,by go_num,hown2,hbel'⟩
      case measure=>simp [intOf];omega
    ·have HS:=hide (Pl.parts_next h0 hkt);have hp:(0:Int)<(k:Int):=by omega
     clear hkt;go_wp2_with (at_builtin;refine wpList_append_own _ rfl _ _ 33 rfl w.heap.size 9 i0 (.string ⟨#[]⟩) 1 16 Tryz.underlying33 hi hz0 hz1 hz2 rfl (by decide) _ _ _ rfl (hown.alloc _) ⟨wr.heap.size,0,none⟩ 1 1 [.string ⟨#[47]⟩] rfl rfl (Mem.ze6 _ _ _) (Mem.one_str _) (by unfold maxLen;omega) (by omega) (by simp;omega) ?_)
     ·intro v1 w1 hown' hgrow _;have hbel':=Mem.zg4 hbel (Nat.le_refl _) hown hgrow;have hown1:w1.ownsRow w.heap.size 9 1 v1 (Pl.zc5 ts k++[(⟨#[47]⟩:ByteArray)]).length ((Pl.zc5 ts k++[(⟨#[47]⟩:ByteArray)]).map Value.string):=by simpa using hown'
      have hb2:=hbel'.size;have hl2:(Pl.zc5 ts k++[(⟨#[47]⟩:ByteArray)]).length≤2*k+1:=by simp;omega
      clear hgrow hown hbel hown' hc hpl;go_wp2_with (at_builtin;refine wpList_append_own _ rfl _ _ 33 rfl w.heap.size 9 i0 (.string ⟨#[]⟩) 1 16 Tryz.underlying33 hi hz0 hz1 hz2 rfl (by decide) _ _ _ rfl (hown1.alloc _) ⟨w1.heap.size,0,none⟩ 1 1 [.string t] rfl rfl (Mem.ze6 _ _ _) (Mem.one_str _) (by unfold maxLen;omega) (by omega) (by simp;omega) ?_)
      ·intro v' w2 hown' hgrow _;have hbel2:=Mem.zg4 hbel' (Nat.le_refl _) hown1 hgrow
       have hown2:Hid (w2.ownsRow w.heap.size 9 1 v' (Pl.zc5 ts (k+1)).length ((Pl.zc5 ts (k+1)).map Value.string)):=by
        show World.ownsRow _ _ _ _ _ _ _;rw [za HS];simpa using hown'
       clear hgrow hown1 hbel' hown';go_wp2
       go_roundw
       case rel=>exact ⟨k+1,by omega,by go_num,hown2,hbel2⟩
       case measure=>simp [intOf];omega
   ·obtain rfl:k=ts.length:=by omega
    rcases Mem.zd7 hown with ⟨rfl,hnil⟩|⟨g,o',cap',rfl,hgl,hcell'⟩
    ·exact absurd hnil HNE.out
    ·have HC':=hide hcell';clear hcell' hown;go_wp2_with fail
     refine (WJoin.any g o' cap' (Pl.zc5 ts ts.length) _ (by omega) H1.out HC'.out hgl).mono ?_;rintro e w1 ⟨rfl,hb1⟩;go_wp2
     go_ret
     exact ⟨by rw [H0.out];rfl,hbel.trans (hb1.mono (by omega))⟩
end zk3
end
section
open Go.RowKit
namespace zh0
theorem zr7 (s:ByteArray) (w:World) (hs:s.size≤1048576):
  Calls Tryz.prog 125 #[.string s] w fun e w'=>e= .returned (.string (Pl.glue (Pl.za6 s).dropLast))∧Below w.heap.size w w':=by
 have hn:=hide (zu6.any s w hs);have hL:=hide (Pl.ze s);generalize Pl.za0 s=r at hn;generalize Pl.za6 s=L at hn hL;go_enter Tryz.func125,Tryz.ntmps125
 go_wp2_with fail
 refine (za hn).mono ?_;rintro e w1 ⟨v,rfl,hown,hb⟩;clear hn
 rcases Mem.texts hown with ⟨rfl,rfl⟩|⟨g,cap,rfl,hcap,hm,hgb,hgl,hcell⟩
 ·clear hown;go_wp2_with fail
  refine (zk3.any _ [] _ (by simp) (by decide) (.inl ⟨rfl,rfl⟩)).mono ?_;rintro e w2 ⟨rfl,hb2⟩;have hb3:=hb.trans (hb2.mono hb.size);clear hb hb2;go_wp2
  go_ret
  exact ⟨rfl,hb3⟩
 ·clear hown;have hm2:=hm;have HC:=hide hcell;clear hcell;unfold maxLen at hm2;by_cases h0:L.length=0
  ·obtain rfl:L=[]:=List.eq_nil_of_length_eq_zero h0;have m0:max (-1:Int) 0=0:=by decide
   go_wp2_with fail
   refine (zk3.any _ [] _ (by simp) (by decide) (.inr ⟨g,0,cap,rfl,hgl,fun j t h=>by simp at h⟩)).mono ?_;rintro e w2 ⟨rfl,hb2⟩;have hb3:=hb.trans (hb2.mono hb.size);clear hb hb2;go_wp2
   go_ret
   exact ⟨rfl,hb3⟩
  ·have h1:(0:Int)≤(L.length:Int) - 1:=by omega
   have m1:max ((L.length:Int) - 1) 0=(L.length:Int) - 1:=by omega
   have h2:(L.length:Int) - 1≤(cap:Int):=by omega
   have E:=hide (Pl.drop_last L);go_wp2_with fail
   try rw [show (max ((L.length:Int) - 1) 0).toNat=L.length - 1 by omega]
   refine (zk3.any _ (L.take (L.length - 1)) _ ?_ (Pl.zp9 (Pl.zt9 (za hL).1 _) ?_) (Mem.take_texts hgl (za HC) _ (by omega))).mono ?_
   ·have :=(za hL).2;simp;omega
   ·have :=(za hL).2;simp;omega
   rintro e w2 ⟨rfl,hb2⟩;rw [za E];have hb3:=hb.trans (hb2.mono hb.size);clear hb hb2;go_wp2
   go_ret
   exact ⟨rfl,hb3⟩
end zh0
end
section
open Go.RowKit Go.Maps
namespace Pl
def parV (e2 e3:Value) (C:List Nd) (p:ByteArray):Value:=
 if (zc3 p).size=0 then .nilIface else match C.find? (fun m=>decide (m.path=zc3 p)) with |none=>e2|some m=>if m.kind=1 then .nilIface else e3
theorem par_ok {C:List Nd} {p:ByteArray} {u2 u3:TypeId} {x2 x3:Value} (hC:C.Pairwise (fun a b=>a.path≠b.path)):
  (parI C p=true∧parV (.iface u2 x2) (.iface u3 x3) C p= .nilIface)∨(parI C p=false∧∃u x,parV (.iface u2 x2) (.iface u3 x3) C p= .iface u x):=by
 unfold parV parI;by_cases h0:(zc3 p).size=0
 ·left;simp [h0]
 simp only [h0,decide_false,Bool.false_or,if_false];cases hf:C.find? (fun m=>decide (m.path=zc3 p)) with
 |none=>
  right
  refine ⟨?_,u2,x2,rfl⟩;rw [List.any_eq_false];intro m hm;have :=List.find?_eq_none.1 hf m hm;simp at this
  simp [this]
 |some m=>
  have h1:=List.mem_of_find?_eq_some hf;have h2:m.path=zc3 p:=by simpa using List.find?_some hf
  by_cases hk:m.kind=1
  ·left
   refine ⟨?_,by simp [hk]⟩;rw [List.any_eq_true];exact ⟨m,h1,by simp [h2,hk]⟩
  ·right
   refine ⟨?_,u3,x3,by simp [hk]⟩;rw [List.any_eq_false];intro x hx;simp only [Bool.and_eq_true,decide_eq_true_eq,not_and];intro hxp
   have :x=m:=by
    have hp:∀ {A:List Nd},A.Pairwise (fun a b=>a.path≠b.path)→∀ {a b:Nd},a∈A→b∈A→a.path=b.path→a=b:=by
     intro A hA
     induction hA with
     |nil=>intro a b ha;cases ha
     |cons hx' _ ih=>
      intro a b ha hb e
      rcases List.mem_cons.1 ha with e1|h1
      ·rcases List.mem_cons.1 hb with e2|h2
       ·rw [e1,e2]
       ·exact absurd (e1 ▸ e) (hx' _ h2)
      ·rcases List.mem_cons.1 hb with e2|h2
       ·exact absurd (e2 ▸ e).symm (hx' _ h1)
       ·exact ih h1 h2 e
    exact hp hC hx h1 (hxp.trans h2.symm)
   rw [this];exact hk
end Pl
namespace MapN
section
variable {P:Program} (w:World) {ops:Array Oper} {rest:List Oper} {o:Oper} {a:Act} {Q:Exit→Act→World→Prop}
theorem look_ok (hg:o.guard=none) (m x:Operand) (t:TypeId) (hop:o.op=Op.lookup t m x true)
  (k e:TypeId) (K:Keyed P k) (ht:P.underlying t=some (.map k e)) (hz:(zeroValue e).run P w= .ok (Pl.Nd.val ⟨⟨#[]⟩,0,⟨#[]⟩,0,0⟩) w) (b n:Nat) (D:DataW Unit)
  (hm:a.eval m= .map (some b)) (hown:w.ownsMap P k elem b n D) (kv:Value) (kl:Lit) (hx:a.eval x=kv) (hkey:keyOf P k kv=some kl) (nd:Pl.Nd) (hat:D.atKey kl (dat ⟨⟨#[]⟩,0,⟨#[]⟩,0,0⟩)=dat nd) (r:Bool) (hr:Maps.has D kl=r)
  (hK:wpList P ops Q rest (a.put o.dst (.tuple #[.agg #[.string nd.path, .int .i64 nd.kind, .string nd.data, .int .i64 nd.time, .int .i64 nd.mark], .bool r])) w):
  wpList P ops Q (o::rest) a w:=
 wpList_lookup_own_ok w hg m x t hop k e K ht elem hz _ [] (zt2 _) b n D hm hown kv kl hx hkey (fun v ps hv=>by
  obtain ⟨n1,rfl,hd⟩:=elem_inv hv;obtain rfl:=zt7 (hat.symm.trans hd);rw [hr]
  exact hK)
end
end MapN
namespace zq0
structure Errs (w:World) (u1 u2 u3:TypeId) (x1 x2 x3:Value):Prop where
 c1:w.cell? ⟨3,0,none⟩=some (.iface u1 x1)
 c2:w.cell? ⟨4,0,none⟩=some (.iface u2 x2)
 c3:w.cell? ⟨5,0,none⟩=some (.iface u3 x3)
theorem Errs.call {w w':World} {u1 u2 u3:TypeId} {x1 x2 x3:Value} (h:Errs w u1 u2 u3 x1 x2 x3) (b:Below w.heap.size w w'):Errs w' u1 u2 u3 x1 x2 x3:=
 ⟨(b.cell (p:=⟨_,0,none⟩) (World.block_lt_of_cell? w ⟨_,0,none⟩ h.c1)).trans h.c1,(b.cell (p:=⟨_,0,none⟩) (World.block_lt_of_cell? w ⟨_,0,none⟩ h.c2)).trans h.c2,(b.cell (p:=⟨_,0,none⟩) (World.block_lt_of_cell? w ⟨_,0,none⟩ h.c3)).trans h.c3⟩
theorem zf9 {w w':World} {B n:Nat} {D:DataW Unit} (h:w.ownsMap Tryz.prog 9 MapN.elem B n D) (b:Below w.heap.size w w'):w'.ownsMap Tryz.prog 9 MapN.elem B n D:=
 h.kept (row:=none) ⟨b.os,b.tape,b.output,b.size,fun k hk _=>b.block k hk⟩ (by simp)
theorem fault_any (B N:Nat) (C:List Pl.Nd) (p:ByteArray) (w:World) (u1 u2 u3:TypeId) (x1 x2 x3:Value) (hE:Errs w u1 u2 u3 x1 x2 x3) (hown:w.ownsMap Tryz.prog 9 MapN.elem B N (MapN.mapOf C)) (hC:C.Pairwise (fun a b=>a.path≠b.path)) (hp:p.size≤1048576):
  Calls Tryz.prog 193 #[.map (some B), .string p] w fun e w'=>e= .returned (Pl.parV (.iface u2 x2) (.iface u3 x3) C p)∧Below w.heap.size w w':=by
 have hpa:=hide (zh0.zr7 p w hp)
 have hz:=hide (show (Pl.zc3 p).size≤1048576 from by
  have h1:=Pl.ze p;have h2:=Pl.zy7 (Pl.za6 p).dropLast (fun t ht=>(Pl.zo6 (h1.1 t (List.dropLast_subset _ ht))).2.2.2);rw [List.length_dropLast] at h2;show (Pl.glue (Pl.za6 p).dropLast).size≤1048576
  omega)
 change Hid (Calls Tryz.prog _ _ w fun e w'=>e= .returned (.string (Pl.zc3 p))∧_) at hpa
 have E1:Hid ((Pl.zc3 p).size=0→Pl.parV (.iface u2 x2) (.iface u3 x3) C p= .nilIface):=fun h=>by simp [Pl.parV,h]
 have E2:Hid ((Pl.zc3 p).size≠0→C.find? (fun m=>decide (m.path=Pl.zc3 p))=none→Pl.parV (.iface u2 x2) (.iface u3 x3) C p= .iface u2 x2):=fun h hf=>by simp [Pl.parV,h,hf]
 have E3:Hid ((Pl.zc3 p).size≠0→∀m,C.find? (fun m=>decide (m.path=Pl.zc3 p))=some m→Pl.parV (.iface u2 x2) (.iface u3 x3) C p=if m.kind=1 then .nilIface else .iface u3 x3):=fun h m hf=>by simp [Pl.parV,h,hf]
 generalize Pl.parV (.iface u2 x2) (.iface u3 x3) C p=R at E1 E2 E3 ⊢;generalize Pl.zc3 p=q at hpa hz E1 E2 E3;have HE:=hide hE;have HM:=hide hown;clear hE hown;go_enter Tryz.func193,Tryz.ntmps193
 go_wp2_with fail
 refine (za hpa).mono ?_;rintro e w1 ⟨rfl,b1⟩;have hE1:=(za HE).call b1;have hM1:=hide (zf9 (za HM) b1);have k2:∀o,(w1.alloc o).cell? ⟨4,0,none⟩=some (.iface u2 x2):=fun o=>(World.cell?_alloc_some _ _ _ (by rw [hE1.c2];rfl)).trans hE1.c2;have k3:∀o,(w1.alloc o).cell? ⟨5,0,none⟩=some (.iface u3 x3):=fun o=>(World.cell?_alloc_some _ _ _ (by rw [hE1.c3];rfl)).trans hE1.c3;clear HE HM hpa hE1;by_cases h0:q.size=0
 ·have t0:q.toList.isEmpty=true:=by rw [Pl.zb7];simpa [Pl.zf5] using h0
  have E:=hide (za E1 h0);go_wp2
  go_ret
  exact ⟨by rw [za E];rfl,b1⟩
 have t0:q.toList.isEmpty=false:=by rw [Pl.zb7];simpa [Pl.zf5] using h0
 have hkey:=MapN.zo0 (p:=q) (by have :=za hz;unfold maxLen;omega);cases hf:C.find? (fun m=>decide (m.path=q)) with
 |none=>
  have E:=hide (za E2 h0 hf);have hmiss:∀n∈C,n.path≠q:=fun n hn=>by simpa using List.find?_eq_none.1 hf n hn
  have ha:=hide (MapN.has_no hmiss);have ha2:=hide (Maps.atKey_of_not_has (za ha) (MapN.dat ⟨⟨#[]⟩,0,⟨#[]⟩,0,0⟩));clear E1 E2 E3 hf hmiss;go_wp2_with (at_lookup;refine MapN.look_ok _ rfl _ _ 130 rfl 9 55 MapN.law Tryz.underlying130 (MapN.za3 _) B N (MapN.mapOf C) rfl (za hM1) _ _ rfl hkey ⟨⟨#[]⟩,0,⟨#[]⟩,0,0⟩ (za ha2) false (za ha) ?_)
  go_ret
  exact ⟨by rw [za E];rfl,b1.alloc b1.size _⟩
 |some m=>
  have E:=hide (za E3 h0 m hf);have hm1:=List.mem_of_find?_eq_some hf;have hm2:m.path=q:=by simpa using List.find?_some hf
  obtain ⟨y1,y2⟩:=MapN.zz8 hC hm1;rw [hm2] at y1 y2;have ha:=hide y1;have ha2:=hide (y2 (MapN.dat ⟨⟨#[]⟩,0,⟨#[]⟩,0,0⟩));clear E1 E2 E3 hf y1 y2 hm1 hm2;by_cases hk:m.kind=1
  ·have E':=hide (show R= .nilIface by rw [za E,if_pos hk]);have t1:(m.kind==1)=true:=by simpa using hk
   clear E hk;go_wp2_with (at_lookup;refine MapN.look_ok _ rfl _ _ 130 rfl 9 55 MapN.law Tryz.underlying130 (MapN.za3 _) B N (MapN.mapOf C) rfl (za hM1) _ _ rfl hkey m (za ha2) true (za ha) ?_)
   go_ret
   exact ⟨by rw [za E'];rfl,b1.alloc b1.size _⟩
  ·have E':=hide (show R= .iface u3 x3 by rw [za E,if_neg hk]);have t1:(m.kind==1)=false:=by simpa using hk
   clear E hk;go_wp2_with (at_lookup;refine MapN.look_ok _ rfl _ _ 130 rfl 9 55 MapN.law Tryz.underlying130 (MapN.za3 _) B N (MapN.mapOf C) rfl (za hM1) _ _ rfl hkey m (za ha2) true (za ha) ?_)
   go_ret
   exact ⟨by rw [za E'];rfl,b1.alloc b1.size _⟩
end zq0
end
section
open Go.RowKit
namespace zu9
theorem infoN:(Tryz.prog.info? 135).map (fun i=>(i.zero,i.size,i.bytes))=some (some (.agg #[.map none, .int .i64 0, .slice none 0 0]),3,40):=by kernel_rfl
structure Tk (w wr:World) (B X2 X7:Nat) (q:Nat) (L:List Pl.Nd) (m:Int) (v:Value) (F:Pl.Fx) (xs:List Value):Prop where
 bel:Below w.heap.size w wr
 big:B≤wr.heap.size
 x2:Mem.Blk wr X2 #[.map none, .int .i64 0, .slice none 0 0] 135
 x7:Mem.Blk wr X7 #[.map (some q), .int .i64 m,v] 135
 l2:w.heap.size≤X2∧X2<B
 l7:w.heap.size≤X7∧X7<B
 ne:X2≠X7
 row:wr.ownsRow B 135 3 v F.len xs
 cells:Mem.zk6 wr (fun b=>B≤b∧v.ownBlock≠some b) F xs
 lq:w.heap.size≤q∧q<B∧q≠X2∧q≠X7
 mq:Mem.ownM wr q L
 ord:(q::Mem.zl3 wr F xs).Pairwise (· < ·)
theorem zh6 {w w':World} {B n s:Nat} {T:TypeId} {v:Value} {xs:List Value} (h:w.ownsRow B T s v n xs) (b:Below w.heap.size w w'):w'.ownsRow B T s v n xs:=by
 refine ⟨h.1,?_⟩
 rcases h.2 with h0|⟨g,cap,cur,hv,hb,hg,rest⟩
 ·exact .inl h0
 ·exact .inr ⟨g,cap,cur,hv,hb,(b.block g (Array.getElem?_eq_some_iff.1 hg).1).trans hg,rest⟩
theorem ze1 {w:World} {B n s:Nat} {T:TypeId} {v:Value} {xs:List Value} (h:w.ownsRow B T s v n xs) (p:Addr) (u:Value) (hp:p.block<B):(w.setCell p u).ownsRow B T s v n xs:=by
 refine ⟨h.1,?_⟩
 rcases h.2 with h0|⟨g,cap,cur,hv,hb,hg,rest⟩
 ·exact .inl h0
 ·exact .inr ⟨g,cap,cur,hv,hb,(heap_setCell_other _ _ _ _ (by omega)).trans hg,rest⟩
theorem Tk.step {w wr w1 w4:World} {B X2 X7:Nat} {q q1:Nat} {L L1:List Pl.Nd} {m:Int} {v v1 v':Value} {F kids:Pl.Fx} {xs:List Value} {o1 o2:Obj} (h:Tk w wr B X2 X7 q L m v F xs)
  (b1:Below wr.heap.size wr w1) (hl:Mem.layX w1 (fun b=>wr.heap.size≤b) kids v1) (hq1:wr.heap.size≤q1) (hap:Mem.apart w1 q1 kids v1) (hm1:Mem.ownM w1 q1 L1)
  (own:w4.ownsRow B 135 3 v' (F.len+1) (xs++[.map (some q1), .int .i64 (kids.len:Int),v1])) (gr:((w1.alloc o1).alloc o2).grownBy w4 v.ownBlock) (far:∀g,v'.ownBlock=some g→v.ownBlock=some g∨((w1.alloc o1).alloc o2).heap.size≤g):
  Tk w (w4.setCell ⟨X7,2,none⟩ v') B X2 X7 q L m v' (F.app (.cons L1 kids .nil)) (xs++[.map (some q1), .int .i64 (kids.len:Int),v1]):=by
 have hw1:wr.heap.size≤w1.heap.size:=b1.size;have hs3:((w1.alloc o1).alloc o2).heap.size=w1.heap.size+1+1:=by simp
 have b3:Below wr.heap.size wr ((w1.alloc o1).alloc o2):=(b1.alloc hw1 o1).alloc (by simp;omega) o2;have b13:Below w1.heap.size w1 ((w1.alloc o1).alloc o2):=((Below.refl _ _).alloc (Nat.le_refl _) o1).alloc (by simp) o2;have e5:(w4.setCell ⟨X7,2,none⟩ v').heap.size=w4.heap.size:=by simp
 have hv7:some X7≠v.ownBlock:=fun e=>by have :=(h.row.lt X7 e.symm).1;have :=h.l7.2;omega
 have hv2:some X2≠v.ownBlock:=fun e=>by have :=(h.row.lt X2 e.symm).1;have :=h.l2.2;omega
 have hbig:=h.big
 have keep:∀b,B≤b→v.ownBlock≠some b→b<w1.heap.size→(w4.setCell ⟨X7,2,none⟩ v').heap[b]? =w1.heap[b]?:=fun b hb hne hlt=>by
  rw [heap_setCell_other _ _ _ _ (by show b≠X7;have :=h.l7.2;omega),gr.block b (by omega) (fun e=>hne e.symm)];exact b13.block b hlt
 have hsz:∀b,b<w1.heap.size→b<(w4.setCell ⟨X7,2,none⟩ v').heap.size:=fun b hb=>by have :=gr.size;omega
 have hnew:∀b,v.ownBlock≠some b→b<w1.heap.size→v'.ownBlock≠some b:=fun b hne hlt e=>by
  rcases far b e with h'|h'
  ·exact hne h'
  ·omega
 have hnw:∀b,wr.heap.size≤b→b<w1.heap.size→v.ownBlock≠some b:=fun b hb hlt e=>by have :=(h.row.lt b e).2;omega
 refine ⟨?_,?_,?_,?_,h.l2,h.l7,h.ne,?_,?_,h.lq,?_,?_⟩
 ·refine Below.setCell ?_ (by show w.heap.size≤X7;exact h.l7.1) _;have bw3:=h.bel.trans (b3.mono h.bel.size);refine ⟨gr.os.trans bw3.os,gr.tape.trans bw3.tape,gr.output.trans bw3.output,Nat.le_trans bw3.size gr.size,fun k hk=>?_⟩;have hk2:=h.bel.size;rw [gr.block k (by omega) (fun e=>by have :=(h.row.lt k e.symm).1;have :=h.l7;omega)];exact bw3.block k hk
 ·have :=gr.size;omega
 ·exact ((h.x2.call b3).grown gr hv2).far _ _ h.ne
 ·exact ((h.x7.call b3).grown gr hv7).put 2 v'
 ·rw [Pl.Fx.len_app];exact ze1 own _ _ h.l7.2
 ·refine Mem.cellsX_snoc ⟨by omega,hnew q1 (hnw q1 hq1 hm1.lt) hm1.lt⟩ (hm1.same (keep q1 (by omega) (hnw q1 hq1 hm1.lt) hm1.lt)) (Mem.zo7 (fun b hb hlt=>?_) hl) F xs (Mem.yg8 (fun b hb hlt=>?_) F xs h.cells)
  ·exact ⟨⟨by omega,hnew b (hnw b hb hlt) hlt⟩,hsz b hlt,keep b (by omega) (hnw b hb hlt) hlt⟩
  ·exact ⟨⟨hb.1,hnew b hb.2 (by omega)⟩,hsz b (by omega),(keep b hb.1 hb.2 (by omega)).trans (b1.block b hlt)⟩
 ·have hq:=h.mq.lt;refine h.mq.same ?_;rw [heap_setCell_other _ _ _ _ (show q≠X7 from h.lq.2.2.2),gr.block q (by omega) (fun e=>by have :=(h.row.lt q e.symm).1;have :=h.lq.2.1;omega)];exact b3.block q hq
 ·have c1:Mem.zk6 (w4.setCell ⟨X7,2,none⟩ v') (fun b=>B≤b) F xs:=Mem.yg8 (fun b hb hlt=>⟨hb.1,hsz b (by omega),(keep b hb.1 hb.2 (by omega)).trans (b1.block b hlt)⟩) F xs h.cells;have e1:Mem.zl3 (w4.setCell ⟨X7,2,none⟩ v') F xs=Mem.zl3 wr F xs:=Mem.mapsC_same (fun b hb hlt=>(keep b hb.1 hb.2 (by omega)).trans (b1.block b hlt)) F xs h.cells;have e2:Mem.zl2 (w4.setCell ⟨X7,2,none⟩ v') kids v1=Mem.zl2 w1 kids v1:=Mem.zw7 (fun b hb hlt=>keep b (by omega) (hnw b hb hlt) hlt) hl;rw [Mem.mapsC_snoc L1 kids q1 _ v1 F xs c1,e1,e2,←List.cons_append,List.pairwise_append];refine ⟨h.ord,hap,fun x hx y hy=>?_⟩
  have hxl:x<wr.heap.size:=by
   rcases List.mem_cons.1 hx with rfl |hx
   ·exact h.mq.lt
   ·exact (Mem.mapsC_in F xs h.cells x hx).2
  have hyl:wr.heap.size≤y:=by
   rcases List.mem_cons.1 hy with rfl |hy
   ·exact hq1
   ·exact (Mem.mapsL_in hl y hy).1
  omega
theorem Tk.mid {w wr w1 w4:World} {B X2 X7:Nat} {q:Nat} {L:List Pl.Nd} {m:Int} {v:Value} {F:Pl.Fx} {xs:List Value} {o1 o2:Obj} (h:Tk w wr B X2 X7 q L m v F xs)
  (b1:Below wr.heap.size wr w1) (gr:((w1.alloc o1).alloc o2).grownBy w4 v.ownBlock):Mem.Blk w4 X7 #[.map (some q), .int .i64 m,v] 135:=
 (((h.x7.call b1).alloc o1).alloc o2).grown gr (fun e=>by have :=(h.row.lt X7 e.symm).1;have :=h.l7.2;omega)
theorem Tk.conc {w wr:World} {B X2 X7:Nat} {q:Nat} {L:List Pl.Nd} {m:Int} {v:Value} {F:Pl.Fx} {xs:List Value} (h:Tk w wr B X2 X7 q L m v F xs):∃a cap,v= .slice a F.len cap:=by
 rcases h.row.2 with ⟨h1,h0⟩|⟨g,cap,cur,h1,_⟩
 ·exact ⟨none,0,by rw [h1,h0]⟩
 ·exact ⟨_,cap,h1⟩
theorem conc {w:World} {B n s:Nat} {T:TypeId} {v:Value} {xs:List Value} (h:w.ownsRow B T s v n xs):∃a cap,v= .slice a n cap:=by
 rcases h.2 with ⟨h1,h0⟩|⟨g,cap,cur,h1,_⟩
 ·exact ⟨none,0,by rw [h1,h0]⟩
 ·exact ⟨_,cap,h1⟩
theorem three_new (w:World) (cs:List Value) (T:TypeId) (o:Obj):∀j u,cs[j]? =some u→((w.alloc o).alloc (.cells cs.toArray T)).cell? ((⟨w.heap.size+1,0,none⟩:Addr).add j)=some u:=by
 intro j u hj;rw [Mem.add_lit];have :=(Mem.zk2 (w.alloc o) cs T).2 j u hj
 simpa using this
theorem Tk.done {w wr:World} {B X2 X7:Nat} {q:Nat} {L:List Pl.Nd} {m:Int} {v:Value} {F:Pl.Fx} {xs:List Value} (h:Tk w wr B X2 X7 q L m v F xs) (u0 u1 u2:Value):
  Mem.layX (((wr.setCell ⟨X2,0,none⟩ u0).setCell ⟨X2,1,none⟩ u1).setCell ⟨X2,2,none⟩ u2) (fun b=>w.heap.size≤b) F v:=by
 refine Mem.zo7 (fun b hb hlt=>⟨?_,by simpa using hlt,?_⟩) (Mem.yg6 h.row h.cells (fun b hb=>hb.1))
 ·have :=h.l2;omega
 ·have :=h.l2.2;rw [heap_setCell_other _ _ _ _ (by show b≠X2;omega),heap_setCell_other _ _ _ _ (by show b≠X2;omega),heap_setCell_other _ _ _ _ (by show b≠X2;omega)]
theorem Tk.own {w wr:World} {B X2 X7:Nat} {q:Nat} {L:List Pl.Nd} {m:Int} {v:Value} {F:Pl.Fx} {xs:List Value} (h:Tk w wr B X2 X7 q L m v F xs) (u0 u1 u2:Value):
  Mem.ownM (((wr.setCell ⟨X2,0,none⟩ u0).setCell ⟨X2,1,none⟩ u1).setCell ⟨X2,2,none⟩ u2) q L:=
 ((h.mq.set _ _ h.lq.2.2.1).set _ _ h.lq.2.2.1).set _ _ h.lq.2.2.1
theorem Tk.apart {w wr:World} {B X2 X7:Nat} {q:Nat} {L:List Pl.Nd} {m:Int} {v:Value} {F:Pl.Fx} {xs:List Value} (h:Tk w wr B X2 X7 q L m v F xs) (u0 u1 u2:Value):
  Mem.apart (((wr.setCell ⟨X2,0,none⟩ u0).setCell ⟨X2,1,none⟩ u1).setCell ⟨X2,2,none⟩ u2) q F v:=by
 have e:Mem.zl2 (((wr.setCell ⟨X2,0,none⟩ u0).setCell ⟨X2,1,none⟩ u1).setCell ⟨X2,2,none⟩ u2) F v=Mem.zl2 wr F v:=Mem.zw7 (fun b hb hlt=>by
  have :=h.l2.2
  rw [heap_setCell_other _ _ _ _ (by show b≠X2;omega),heap_setCell_other _ _ _ _ (by show b≠X2;omega),heap_setCell_other _ _ _ _ (by show b≠X2;omega)]) (Mem.yg6 h.row h.cells (fun b hb=>hb.1))
 show (q::_).Pairwise _;rw [e,Mem.mapsL_of_row h.row h.cells];exact h.ord
end zu9
end
section
open Go.RowKit
namespace zh4
structure zq8 (w:World) (u0 u1 u2 u3:TypeId) (x0 x1 x2 x3:Value):Prop where
 c0:w.cell? ⟨2,0,none⟩=some (.iface u0 x0)
 three:zq0.Errs w u1 u2 u3 x1 x2 x3
theorem zq8.call {w w':World} {u0 u1 u2 u3:TypeId} {x0 x1 x2 x3:Value} (h:zq8 w u0 u1 u2 u3 x0 x1 x2 x3) (b:Below w.heap.size w w'):zq8 w' u0 u1 u2 u3 x0 x1 x2 x3:=
 ⟨(b.cell (p:=⟨_,0,none⟩) (World.block_lt_of_cell? w ⟨_,0,none⟩ h.c0)).trans h.c0,h.three.call b⟩
end zh4
end
section
open Go.RowKit
namespace WLaw
theorem eqItem_any (m:Int) (a b:Option Addr) (c1 c2:Nat) (L:List Pl.Nd) (w:World) (hl:L.length≤1048576) (hv:Mem.zb1 w a L) (hu:Mem.zb1 w b L):
  Calls Tryz.prog 129 #[.agg #[.int .i64 m, .slice a L.length c1], .agg #[.int .i64 m, .slice b L.length c2]] w fun e w'=>e= .returned (.bool true)∧Below w.heap.size w w':=by
 have b0:∀o1 o2,Below w.heap.size w ((w.alloc o1).alloc o2):=fun o1 o2=>((Below.refl _ _).alloc (Nat.le_refl _) o1).alloc (by simp) o2;have HB:=hide b0;have HZ:=hide (fun W (b':Below w.heap.size w W)=>eqTree_any a b c1 c2 L W hl (Mem.za9 hv b') (Mem.za9 hu b'));clear hv hu b0;go_enter Tryz.func129,Tryz.ntmps129
 go_wp2_with fail
 refine (za HZ _ (za HB _ _)).mono ?_;rintro e w1 ⟨rfl,b1⟩;have bb:=(za HB _ _).trans (b1.mono (za HB _ _).size);clear HZ b1;go_wp2
 go_ret
 exact ⟨rfl,bb⟩
theorem eqItemS_any (a b:Option Addr) (c1 c2:Nat) (Ts Us:List Pl.It) (w:World) (hl:Ts.length≤1048576) (hm:Us.map Pl.It.r=Ts.map Pl.It.r) (hv:Mem.zb4 w a Ts) (hu:Mem.zb4 w b Us) (hok:∀t∈Ts,t.t.L.length≤1048576):
  Calls Tryz.prog 96 #[.slice a Ts.length c1, .slice b Ts.length c2] w fun e w'=>e= .returned (.bool true)∧Below w.heap.size w w':=by
 have HV:=hide hv;have HU:=hide hu;have HO:=hide hok;have HM:=hide hm;clear hv hu hok hm;go_enter Tryz.func96,Tryz.ntmps96
 go_wp2
 go_loopw [5] (fun i wr=>∃k:Nat,k≤Ts.length∧i= .int .i64 (k:Int)∧Below w.heap.size w wr) (fun i _=>Ts.length - (intOf i).toNat)
 case atStart=>exact ⟨0,Nat.zero_le _,rfl,Below.refl _ _⟩
 case round=>
  obtain ⟨k,hk,rfl,hbel⟩:=hrel;by_cases hlt:k<Ts.length
  ·obtain ⟨t,ht⟩:∃n,Ts[k]? =some n:=⟨_,List.getElem?_eq_getElem hlt⟩
   obtain ⟨u,hu,hum,hul⟩:∃u,Us[k]? =some u∧u.m=t.m∧u.t.L=t.t.L:=by
    have h:=congrArg (fun l=>l[k]?) (za HM);simp only [List.getElem?_map,ht,Option.map_some] at h;cases hu:Us[k]? with
    |none=>rw [hu] at h;simp at h
    |some u=>rw [hu] at h;simp [Pl.It.r] at h;exact ⟨u,rfl,h.1,h.2⟩
   obtain ⟨⟨g,o,rfl,hg,q0,q0'⟩,q1⟩:=(za HV) k t ht;obtain ⟨⟨g2,o2,rfl,hg2,p0,p0'⟩,p1⟩:=(za HU) k u hu;rw [hul] at p1;have hz:=hide (fun W (b:Below w.heap.size w W)=>eqItem_any t.m t.t.a u.t.a t.t.cap u.t.cap t.t.L W (za HO t (List.mem_of_getElem? ht)) (Mem.za9 q1 b) (Mem.za9 p1 b));have MK:Hid (∀W',Below w.heap.size w W'→(Below w.heap.size w W'∧W'.cell? ⟨g,o+k*2,none⟩=some (.int .i64 t.m)∧W'.cell? ⟨g,o+k*2+1,none⟩=some (.slice t.t.a t.t.L.length t.t.cap)∧W'.cell? ⟨g2,o2+k*2,none⟩=some (.int .i64 t.m)∧W'.cell? ⟨g2,o2+k*2+1,none⟩=some (.slice u.t.a t.t.L.length u.t.cap))):=fun W' hb'=>⟨hb',(hb'.cell (p:=⟨g,_,none⟩) hg).trans q0,(hb'.cell (p:=⟨g,_,none⟩) hg).trans (by rw [q0',Pl.Tr.val]),(hb'.cell (p:=⟨g2,_,none⟩) hg2).trans (by rw [p0,hum]),(hb'.cell (p:=⟨g2,_,none⟩) hg2).trans (by rw [p0',Pl.Tr.val,hul])⟩;have u1:(k:Int)<(Ts.length:Int):=by omega
   have u3:(0:Int)≤(k:Int):=by omega
   have hbd:Below w.heap.size w wr.drew:=⟨hbel.os,hbel.tape,hbel.output,hbel.size,hbel.block⟩;clear q0 p0 q0' p0' ht hu hul hum q1 p1;go_wp2_with fail
   go_region_held3 (fun W'=>Below w.heap.size w W'∧W'.cell? ⟨g,o+k*2,none⟩=some (.int .i64 t.m)∧W'.cell? ⟨g,o+k*2+1,none⟩=some (.slice t.t.a t.t.L.length t.t.cap)∧W'.cell? ⟨g2,o2+k*2,none⟩=some (.int .i64 t.m)∧W'.cell? ⟨g2,o2+k*2+1,none⟩=some (.slice u.t.a t.t.L.length u.t.cap)) (first |exact za MK _ hbd|exact za MK _ (hbd.trans (bX.mono hbd.size))) (first |(go_at_call 129;refine (za hz _ hbd).mono ?_;rintro e wX ⟨rfl,bX⟩))
   have hb2:=hbd.trans (bX.mono hbd.size);clear hbel hbd bX MK;go_wp2
   go_roundw
   case rel=>exact ⟨k+1,by omega,by go_num,hb2⟩
   case measure=>simp [intOf];omega
  ·have u1:¬ (k:Int)<(Ts.length:Int):=by omega
   go_wp2
   go_ret
   exact ⟨rfl,hbel⟩
end WLaw
end
end Go.Proofs.YtbomeifgfalmdaaGreatDoor
