import Derived.Test.YtpggbphcbcogdaaGreatDoorMemFx
namespace Go.Proofs.YtpggbphcbcogdaaGreatDoor
open Go.RowKit Go.Maps
namespace Mem
def mapQ:Option Value→Nat
 |some (.map (some q))=>q
 |_=>0
def rowB:Option Value→Option Nat
 |some (.slice (some p) _ _)=>some p.block
 |_=>none
def zl3 (w:World):Pl.Fx→Nat→Nat→List Nat
 | .nil,_,_=>[]
 | .cons _ k m,b,i=>mapQ (w.cell? ⟨b,i,none⟩)::((match rowB (w.cell? ⟨b,i+2,none⟩) with |some b'=>zl3 w k b' 0|none=>[])++zl3 w m b (i+3))
def zh2 (w:World) (k:Pl.Fx) (v:Value):List Nat:=match rowB (some v) with |some b'=>zl3 w k b' 0|none=>[]
def zh1 (w:World):Pl.Fx→List Value→List Nat
 | .nil,_=>[]
 | .cons _ k m,xs=>mapQ xs[0]?::(zh2 w k (xs[2]?.getD undef)++zh1 w m (xs.drop 3))
theorem zp3 {w:World} {L:List Pl.Nd} {k m:Pl.Fx} {b i q:Nat} {v:Value} (h1:w.cell? ⟨b,i,none⟩=some (.map (some q))) (h2:w.cell? ⟨b,i+2,none⟩=some v):zl3 w (.cons L k m) b i=q::(zh2 w k v++zl3 w m b (i+3)):=by
 rw [zl3,h1,h2];rfl
theorem zj5 (w:World) (v:Value):zh2 w .nil v=[]:=by
 unfold zh2
 split <;> rfl
theorem zp6 (w:World) (k:Pl.Fx) (b n cap:Nat):zh2 w k (.slice (some ⟨b,0,none⟩) n cap)=zl3 w k b 0:=rfl
theorem mapsR_same {w w':World} {N:Nat→Prop} (h:∀b,N b→b<w.heap.size→w'.heap[b]? =w.heap[b]?) (F:Pl.Fx):∀b i,rowX w N F b i→zl3 w' F b i=zl3 w F b i:=by
 induction F with
 |nil=>intro b i _;rfl
 |cons L k m ihk ihm=>
  intro b i hr;obtain ⟨⟨q,a,cap,h1,h2,h3,h4,h5,hq,hm,h6⟩,h7⟩:=hr;have c:∀j,w'.cell? ⟨b,j,none⟩=w.cell? ⟨b,j,none⟩:=fun j=>World.cell?_of_block (h b h5 h4);rw [zp3 ((c _).trans h1) ((c _).trans h3),zp3 h1 h3,ihm _ _ h7]
  rcases h6 with rfl |⟨b',rfl, -,h9⟩
  ·rw [zj5,zj5]
  ·rw [zp6,zp6,ihk _ _ h9]
theorem zp2 {w w':World} {N:Nat→Prop} (h:∀b,N b→b<w.heap.size→w'.heap[b]? =w.heap[b]?) {k:Pl.Fx} {v:Value} (hl:layX w N k v):zh2 w' k v=zh2 w k v:=by
 obtain ⟨a,cap,rfl,h2⟩:=hl
 rcases h2 with rfl |⟨b',rfl, -,h4⟩
 ·rw [zj5,zj5]
 ·rw [zp6,zp6,mapsR_same h _ _ _ h4]
theorem zi7 (w:World) (L:List Pl.Nd) (k m:Pl.Fx) (q:Nat) (c v:Value) (ys:List Value):zh1 w (.cons L k m) (.map (some q)::c::v::ys)=q::(zh2 w k v++zh1 w m ys):=rfl
theorem mapsC_same {w w':World} {N:Nat→Prop} (h:∀b,N b→b<w.heap.size→w'.heap[b]? =w.heap[b]?) (F:Pl.Fx):∀xs,zg5 w N F xs→zh1 w' F xs=zh1 w F xs:=by
 induction F with
 |nil=>intro xs _;rfl
 |cons L k m _ ih=>
  intro xs hx;obtain ⟨q,v,ys,rfl,hq,hm,h2,h3⟩:=hx;rw [zi7,zi7,zp2 h h2,ih _ h3]
theorem mapsR_in {w:World} {N:Nat→Prop} (F:Pl.Fx):∀b i,rowX w N F b i→∀j∈zl3 w F b i,N j∧j<w.heap.size:=by
 induction F with
 |nil=>intro b i _ j hj;cases hj
 |cons L k m ihk ihm=>
  intro b i hr j hj;obtain ⟨⟨q,a,cap,h1,h2,h3,h4,h5,hq,hm,h6⟩,h7⟩:=hr;rw [zp3 h1 h3] at hj
  rcases List.mem_cons.1 hj with rfl |hj
  ·exact ⟨hq,hm.lt⟩
  rcases List.mem_append.1 hj with hj|hj
  ·rcases h6 with rfl |⟨b',rfl, -,h9⟩
   ·rw [zj5] at hj;cases hj
   ·exact ihk _ _ h9 j hj
  ·exact ihm _ _ h7 j hj
theorem mapsL_in {w:World} {N:Nat→Prop} {k:Pl.Fx} {v:Value} (hl:layX w N k v):∀j∈zh2 w k v,N j∧j<w.heap.size:=by
 obtain ⟨a,cap,rfl,h2⟩:=hl
 rcases h2 with rfl |⟨b',rfl, -,h4⟩
 ·rw [zj5];intro j hj;cases hj
 ·exact mapsR_in _ _ _ h4
theorem mapsC_in {w:World} {N:Nat→Prop} (F:Pl.Fx):∀xs,zg5 w N F xs→∀j∈zh1 w F xs,N j∧j<w.heap.size:=by
 induction F with
 |nil=>intro xs _ j hj;cases hj
 |cons L k m _ ih=>
  intro xs hx j hj;obtain ⟨q,v,ys,rfl,hq,hm,h2,h3⟩:=hx;rw [zi7] at hj
  rcases List.mem_cons.1 hj with rfl |hj
  ·exact ⟨hq,hm.lt⟩
  rcases List.mem_append.1 hj with hj|hj
  ·exact mapsL_in h2 j hj
  ·exact ih _ h3 j hj
theorem mapsC_snoc {w:World} {N:Nat→Prop} (L:List Pl.Nd) (k:Pl.Fx) (q:Nat) (c v:Value) (F:Pl.Fx):∀xs,zg5 w N F xs→zh1 w (F.app (.cons L k .nil)) (xs++[.map (some q),c,v])=zh1 w F xs++q::zh2 w k v:=by
 induction F with
 |nil=>intro xs h;cases h;show zh1 w (.cons L k .nil) _=_;rw [List.nil_append,zi7];simp [zh1]
 |cons L' k' m _ ih=>
  intro xs hx;obtain ⟨q',v',ys,rfl,hq',hm',h2,h3⟩:=hx;show zh1 w (.cons L' k' (m.app _)) (.map (some q')::_::v'::(ys++_))=_;rw [zi7,zi7,ih _ h3];simp
theorem zy5 {w:World} {N:Nat→Prop} {g:Nat} (F:Pl.Fx):∀ (xs:List Value) (i:Nat),zg5 w N F xs→(∀j u,xs[j]? =some u→w.cell? ⟨g,i+j,none⟩=some u)→zl3 w F g i=zh1 w F xs:=by
 induction F with
 |nil=>intro xs i _ _;rfl
 |cons L k m _ ih=>
  intro xs i hx hc;obtain ⟨q,v,ys,rfl,hq,hm,h2,h3⟩:=hx;have e0:w.cell? ⟨g,i,none⟩=some (.map (some q)):=hc 0 _ rfl;rw [zp3 e0 (hc 2 _ rfl),zi7,ih ys (i+3) h3 fun j u hj=>?_];have :=hc (j+3) u (by simpa using hj);rw [show i+3+j=i+(j+3) by omega];exact this
theorem mapsL_of_row {w:World} {B:Nat} {T:TypeId} {v:Value} {N:Nat→Prop} {F:Pl.Fx} {xs:List Value} (h:w.ownsRow B T 3 v F.len xs) (hc:zg5 w N F xs):zh2 w F v=zh1 w F xs:=by
 rcases h.2 with ⟨rfl,h0⟩|⟨g,cap,cur,rfl,hb,hg,hc2,hm,hsz,ht⟩
 ·cases F with
  |nil=>exact zj5 _ _
  |cons L k m=>simp [Pl.Fx.len] at h0
 ·rw [zp6];refine zy5 F xs 0 hc fun j u hj=>?_;rw [cell_of_row w g _ cur _ (0,0) hg,Nat.zero_add];rw [←ht,List.getElem?_take] at hj
  split at hj
  ·simpa using hj
  ·cases hj
def apart (w:World) (q:Nat) (k:Pl.Fx) (v:Value):Prop:=(q::zh2 w k v).Pairwise (· < ·)
theorem zw9 {w w':World} {N:Nat→Prop} (h:∀b,N b→b<w.heap.size→w'.heap[b]? =w.heap[b]?) {q:Nat} {k:Pl.Fx} {v:Value} (hl:layX w N k v) (ha:apart w q k v):apart w' q k v:=by
 show (q::_).Pairwise _;rw [zp2 h hl];exact ha
theorem zx7 {w w':World} {N:Nat→Prop} {q:Nat} {k:Pl.Fx} {v:Value} (hl:layX w N k v) (ha:apart w q k v) (b:Below w.heap.size w w'):apart w' q k v:=zw9 (fun j _ hj=>b.block j hj) hl ha
end Mem
end Go.Proofs.YtpggbphcbcogdaaGreatDoor
