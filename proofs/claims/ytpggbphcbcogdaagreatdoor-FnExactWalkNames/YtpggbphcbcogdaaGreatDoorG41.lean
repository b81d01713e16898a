/- Several texts of one claim in one file: WItemX, MemMaps, WTakeX. -/
import Derived.Test.YtpggbphcbcogdaaGreatDoorG40
namespace Go.Proofs.YtpggbphcbcogdaaGreatDoor
section
open Go.RowKit
namespace zn9
set_option linter.unusedSimpArgs false in
set_option maxRecDepth 100000 in
set_option maxHeartbeats 1000000 in
theorem item_any (m:Int) (a:Option Addr) (cap:Nat) (L:List Pl.Nd) (w:World) (hl:L.length≤1048576) (hv:Mem.zb5 w a L) (hok:∀n∈L,n.path.size≤1048576∧n.data.size≤1048576)
  (r1 r2 r3:TypeId) (x1 x2 x3:Value) (hE:zk2.Errs w r1 r2 r3 x1 x2 x3):
  Calls Tryz.prog 52 #[.agg #[.int .i64 m, .slice a L.length cap]] w fun e w'=>((Pl.ze3 m L=true∧∃B,e= .returned (.tuple #[.agg #[.map (some B), .int .i64 m], .nilIface])∧w.heap.size≤B∧Mem.ownM w' B L)∨
   (Pl.ze3 m L=false∧∃k,e= .returned (.tuple #[.agg #[.map none, .int .i64 k], .iface r1 x1])))∧Below w.heap.size w w':=by
 have b0:Below w.heap.size w ((w.alloc (.cells #[.int .i64 m, .slice a L.length cap] 52)).alloc (.cells #[.map none, .int .i64 0] 59)):=(bE0).alloc (by simp) _;have k1:=(hE.call b0).c1;have HB0:=hide b0;by_cases h1:m<0
 ·have hb:Pl.ze3 m L=false:=by unfold Pl.ze3;rw [show decide (0≤m)=false from decide_eq_false (by omega)];simp
  clear b0 hv hok hE;go_enter Tryz.func52,Tryz.ntmps52
  go_wp2
  go_region
  go_wp2
  refine bodyPost_ret (v:= .tuple #[.agg #[.map none, .int .i64 0], .iface r1 x1]) (by simp [results,Tryz.results52,go_sem]) rfl ⟨.inr ⟨hb,0,rfl⟩,?_⟩;exact Mem.below_drewN (za HB0) 1
 by_cases h2:4<m
 ·have hb:Pl.ze3 m L=false:=by unfold Pl.ze3;rw [show decide (m≤4)=false from decide_eq_false (by omega)];simp
  clear b0 hv hok hE;go_enter Tryz.func52,Tryz.ntmps52
  go_wp2
  go_region
  go_wp2
  refine bodyPost_ret (v:= .tuple #[.agg #[.map none, .int .i64 0], .iface r1 x1]) (by simp [results,Tryz.results52,go_sem]) rfl ⟨.inr ⟨hb,0,rfl⟩,?_⟩;exact Mem.below_drewN (za HB0) 1
 by_cases h3:0<m∧0<L.length
 ·have hb:Pl.ze3 m L=false:=by
   rw [Pl.zr9 (by omega),show decide (L.length=0)=false from decide_eq_false (by omega)];simp
  have u1:=h3.1;have u2:(0:Int)<(L.length:Int):=by omega
  clear b0 hv hok hE;go_enter Tryz.func52,Tryz.ntmps52
  go_wp2
  go_region
  go_wp2
  refine bodyPost_ret (v:= .tuple #[.agg #[.map none, .int .i64 0], .iface r1 x1]) (by simp [results,Tryz.results52,go_sem]) rfl ⟨.inr ⟨hb,0,rfl⟩,?_⟩;exact Mem.below_drewN (za HB0) 1
 have hb:Pl.ze3 m L=Pl.zb9 L:=by
  by_cases h0:m=0
  ·subst h0;exact Pl.zy1 L
  ·have hL:L=[]:=List.eq_nil_of_length_eq_zero (by omega);subst hL;rw [Pl.zr9 h0,Pl.treeB_nil,decide_eq_true (show 1≤m by omega),decide_eq_true (show m≤4 by omega)];rfl
 rw [hb];have hz:=hide (zk2.nodes_any a cap L _ hl (Mem.za9 hv b0) hok r1 r2 r3 x1 x2 x3 (hE.call b0))
 have r2':Mem.Blk ((w.alloc (.cells #[.int .i64 m, .slice a L.length cap] 52)).alloc (.cells #[.map none, .int .i64 0] 59)) (w.heap.size+1) #[.map none, .int .i64 0] 59:=by
  have :=Mem.Blk.new (w.alloc (.cells #[.int .i64 m, .slice a L.length cap] 52)) #[.map none, .int .i64 0] 59
  simpa using this
 have r1':Mem.Blk ((w.alloc (.cells #[.int .i64 m, .slice a L.length cap] 52)).alloc (.cells #[.map none, .int .i64 0] 59)) w.heap.size #[.int .i64 m, .slice a L.length cap] 52:=(Mem.Blk.new w _ _).alloc _;clear hv hok hE k1 b0 hb;by_cases h4:0<m
 ·have u2:¬ (0:Int)<(L.length:Int):=by omega
  go_enter Tryz.func52,Tryz.ntmps52
  go_wp2_with fail
  generalize ((w.alloc (.cells #[.int .i64 m, .slice a L.length cap] 52)).alloc (.cells #[.map none, .int .i64 0] 59))=w2 at hz r1' r2' HB0 ⊢;refine (za hz).mono ?_;rintro e w1 ⟨h1,b1⟩;have R1:=r1'.call b1;have R2:=r2'.call b1;obtain ⟨c10,c11⟩:=jc2 R1;obtain ⟨⟨c20,c21⟩,f20,f21⟩:=jf2 R2;have bb:=hide ((za HB0).trans (b1.mono (za HB0).size));have HS2:Hid (w.heap.size+2≤w2.heap.size):=hide (by have :=r2'.lt;omega);clear hz b1 r1' r2' R1 R2 HB0
  rcases h1 with ⟨hT,B,rfl,hB,hm⟩|⟨hT,rfl⟩
  ·have HM:Hid (w.heap.size≤B∧Mem.ownM ((w1.setCell ⟨w.heap.size+1,0,none⟩ (.map (some B))).setCell ⟨w.heap.size+1,1,none⟩ (.int .i64 m)) B L):=
    hide ⟨by have :=(za HS2);omega,(Mem.ownM.set (Mem.ownM.set hm _ _ (by have :=(za HS2);show B≠w.heap.size+1;omega)) _ _ (by have :=(za HS2);show B≠w.heap.size+1;omega))⟩
   clear hm hB;go_wp2
   refine bodyPost_ret (v:= .tuple #[.agg #[.map (some B), .int .i64 m], .nilIface]) (by simp [results,Tryz.results52,go_sem,c20,c21]) rfl ⟨.inl ⟨hT,B,rfl,za HM⟩,?_⟩;exact ((za bb).setCell (by show w.heap.size≤w.heap.size+1;omega) _).setCell (by show w.heap.size≤w.heap.size+1;omega) _
  ·go_wp2
   refine bodyPost_ret (v:= .tuple #[.agg #[.map none, .int .i64 m], .iface r1 x1]) (by simp [results,Tryz.results52,go_sem,c20,c21]) rfl ⟨.inr ⟨hT,m,rfl⟩,?_⟩;exact ((za bb).setCell (by show w.heap.size≤w.heap.size+1;omega) _).setCell (by show w.heap.size≤w.heap.size+1;omega) _
 ·go_enter Tryz.func52,Tryz.ntmps52
  go_wp2_with fail
  generalize ((w.alloc (.cells #[.int .i64 m, .slice a L.length cap] 52)).alloc (.cells #[.map none, .int .i64 0] 59))=w2 at hz r1' r2' HB0 ⊢;refine (za hz).mono ?_;rintro e w1 ⟨h1,b1⟩;have R1:=r1'.call b1;have R2:=r2'.call b1;obtain ⟨c10,c11⟩:=jc2 R1;obtain ⟨⟨c20,c21⟩,f20,f21⟩:=jf2 R2;have bb:=hide ((za HB0).trans (b1.mono (za HB0).size));have HS2:Hid (w.heap.size+2≤w2.heap.size):=hide (by have :=r2'.lt;omega);clear hz b1 r1' r2' R1 R2 HB0
  rcases h1 with ⟨hT,B,rfl,hB,hm⟩|⟨hT,rfl⟩
  ·have HM:Hid (w.heap.size≤B∧Mem.ownM ((w1.setCell ⟨w.heap.size+1,0,none⟩ (.map (some B))).setCell ⟨w.heap.size+1,1,none⟩ (.int .i64 m)) B L):=
    hide ⟨by have :=(za HS2);omega,(Mem.ownM.set (Mem.ownM.set hm _ _ (by have :=(za HS2);show B≠w.heap.size+1;omega)) _ _ (by have :=(za HS2);show B≠w.heap.size+1;omega))⟩
   clear hm hB;go_wp2
   refine bodyPost_ret (v:= .tuple #[.agg #[.map (some B), .int .i64 m], .nilIface]) (by simp [results,Tryz.results52,go_sem,c20,c21]) rfl ⟨.inl ⟨hT,B,rfl,za HM⟩,?_⟩;exact ((za bb).setCell (by show w.heap.size≤w.heap.size+1;omega) _).setCell (by show w.heap.size≤w.heap.size+1;omega) _
  ·go_wp2
   refine bodyPost_ret (v:= .tuple #[.agg #[.map none, .int .i64 m], .iface r1 x1]) (by simp [results,Tryz.results52,go_sem,c20,c21]) rfl ⟨.inr ⟨hT,m,rfl⟩,?_⟩;exact ((za bb).setCell (by show w.heap.size≤w.heap.size+1;omega) _).setCell (by show w.heap.size≤w.heap.size+1;omega) _
end zn9
end
section
open Go.RowKit Go.Maps
namespace Mem
def mapQ:Option Value→Nat
 |some (.map (some q))=>q
 |_=>0
def rowB:Option Value→Option Nat
 |some (.slice (some p) _ _)=>some p.block
 |_=>none
def zl3 (w:World):Pl.Fx→Nat→Nat→List Nat
 | .nil,_,_=>[]
 | .cons _ k m,b,i=>mapQ (w.cell? ⟨b,i,none⟩)::((match rowB (w.cell? ⟨b,i+2,none⟩) with |some b'=>zl3 w k b' 0|none=>[])++zl3 w m b (i+3))
def zh2 (w:World) (k:Pl.Fx) (v:Value):List Nat:=match rowB (some v) with |some b'=>zl3 w k b' 0|none=>[]
def zh1 (w:World):Pl.Fx→List Value→List Nat
 | .nil,_=>[]
 | .cons _ k m,xs=>mapQ xs[0]?::(zh2 w k (xs[2]?.getD undef)++zh1 w m (xs.drop 3))
theorem zp3 {w:World} {L:List Pl.Nd} {k m:Pl.Fx} {b i q:Nat} {v:Value} (h1:w.cell? ⟨b,i,none⟩=some (.map (some q))) (h2:w.cell? ⟨b,i+2,none⟩=some v):zl3 w (.cons L k m) b i=q::(zh2 w k v++zl3 w m b (i+3)):=by
 rw [zl3,h1,h2];rfl
theorem zj5 (w:World) (v:Value):zh2 w .nil v=[]:=by
 unfold zh2
 split <;> rfl
theorem zp6 (w:World) (k:Pl.Fx) (b n cap:Nat):zh2 w k (.slice (some ⟨b,0,none⟩) n cap)=zl3 w k b 0:=rfl
theorem mapsR_same {w w':World} {N:Nat→Prop} (h:∀b,N b→b<w.heap.size→w'.heap[b]? =w.heap[b]?) (F:Pl.Fx):∀b i,rowX w N F b i→zl3 w' F b i=zl3 w F b i:=by
 induction F with
 |nil=>intro b i _;rfl
 |cons L k m ihk ihm=>
  intro b i hr;obtain ⟨⟨q,a,cap,h1,h2,h3,h4,h5,hq,hm,h6⟩,h7⟩:=hr;have c:∀j,w'.cell? ⟨b,j,none⟩=w.cell? ⟨b,j,none⟩:=fun j=>World.cell?_of_block (h b h5 h4);rw [zp3 ((c _).trans h1) ((c _).trans h3),zp3 h1 h3,ihm _ _ h7]
  rcases h6 with rfl |⟨b',rfl, -,h9⟩
  ·rw [zj5,zj5]
  ·rw [zp6,zp6,ihk _ _ h9]
theorem zp2 {w w':World} {N:Nat→Prop} (h:∀b,N b→b<w.heap.size→w'.heap[b]? =w.heap[b]?) {k:Pl.Fx} {v:Value} (hl:layX w N k v):zh2 w' k v=zh2 w k v:=by
 obtain ⟨a,cap,rfl,h2⟩:=hl
 rcases h2 with rfl |⟨b',rfl, -,h4⟩
 ·rw [zj5,zj5]
 ·rw [zp6,zp6,mapsR_same h _ _ _ h4]
theorem zi7 (w:World) (L:List Pl.Nd) (k m:Pl.Fx) (q:Nat) (c v:Value) (ys:List Value):zh1 w (.cons L k m) (.map (some q)::c::v::ys)=q::(zh2 w k v++zh1 w m ys):=rfl
theorem mapsC_same {w w':World} {N:Nat→Prop} (h:∀b,N b→b<w.heap.size→w'.heap[b]? =w.heap[b]?) (F:Pl.Fx):∀xs,zg5 w N F xs→zh1 w' F xs=zh1 w F xs:=by
 induction F with
 |nil=>intro xs _;rfl
 |cons L k m _ ih=>
  intro xs hx;obtain ⟨q,v,ys,rfl,hq,hm,h2,h3⟩:=hx;rw [zi7,zi7,zp2 h h2,ih _ h3]
theorem mapsR_in {w:World} {N:Nat→Prop} (F:Pl.Fx):∀b i,rowX w N F b i→∀j∈zl3 w F b i,N j∧j<w.heap.size:=by
 induction F with
 |nil=>intro b i _ j hj;cases hj
 |cons L k m ihk ihm=>
  intro b i hr j hj;obtain ⟨⟨q,a,cap,h1,h2,h3,h4,h5,hq,hm,h6⟩,h7⟩:=hr;rw [zp3 h1 h3] at hj
  rcases List.mem_cons.1 hj with rfl |hj
  ·exact ⟨hq,hm.lt⟩
  rcases List.mem_append.1 hj with hj|hj
  ·rcases h6 with rfl |⟨b',rfl, -,h9⟩
   ·rw [zj5] at hj;cases hj
   ·exact ihk _ _ h9 j hj
  ·exact ihm _ _ h7 j hj
theorem mapsL_in {w:World} {N:Nat→Prop} {k:Pl.Fx} {v:Value} (hl:layX w N k v):∀j∈zh2 w k v,N j∧j<w.heap.size:=by
 obtain ⟨a,cap,rfl,h2⟩:=hl
 rcases h2 with rfl |⟨b',rfl, -,h4⟩
 ·rw [zj5];intro j hj;cases hj
 ·exact mapsR_in _ _ _ h4
theorem mapsC_in {w:World} {N:Nat→Prop} (F:Pl.Fx):∀xs,zg5 w N F xs→∀j∈zh1 w F xs,N j∧j<w.heap.size:=by
 induction F with
 |nil=>intro xs _ j hj;cases hj
 |cons L k m _ ih=>
  intro xs hx j hj;obtain ⟨q,v,ys,rfl,hq,hm,h2,h3⟩:=hx;rw [zi7] at hj
  rcases List.mem_cons.1 hj with rfl |hj
  ·exact ⟨hq,hm.lt⟩
  rcases List.mem_append.1 hj with hj|hj
  ·exact mapsL_in h2 j hj
  ·exact ih _ h3 j hj
theorem mapsC_snoc {w:World} {N:Nat→Prop} (L:List Pl.Nd) (k:Pl.Fx) (q:Nat) (c v:Value) (F:Pl.Fx):∀xs,zg5 w N F xs→zh1 w (F.app (.cons L k .nil)) (xs++[.map (some q),c,v])=zh1 w F xs++q::zh2 w k v:=by
 induction F with
 |nil=>intro xs h;cases h;show zh1 w (.cons L k .nil) _=_;rw [List.nil_append,zi7];simp [zh1]
 |cons L' k' m _ ih=>
  intro xs hx;obtain ⟨q',v',ys,rfl,hq',hm',h2,h3⟩:=hx;show zh1 w (.cons L' k' (m.app _)) (.map (some q')::_::v'::(ys++_))=_;rw [zi7,zi7,ih _ h3];simp
theorem zy5 {w:World} {N:Nat→Prop} {g:Nat} (F:Pl.Fx):∀ (xs:List Value) (i:Nat),zg5 w N F xs→(∀j u,xs[j]? =some u→w.cell? ⟨g,i+j,none⟩=some u)→zl3 w F g i=zh1 w F xs:=by
 induction F with
 |nil=>intro xs i _ _;rfl
 |cons L k m _ ih=>
  intro xs i hx hc;obtain ⟨q,v,ys,rfl,hq,hm,h2,h3⟩:=hx;have e0:w.cell? ⟨g,i,none⟩=some (.map (some q)):=hc 0 _ rfl;rw [zp3 e0 (hc 2 _ rfl),zi7,ih ys (i+3) h3 fun j u hj=>?_];have :=hc (j+3) u (by simpa using hj);rw [show i+3+j=i+(j+3) by omega];exact this
theorem mapsL_of_row {w:World} {B:Nat} {T:TypeId} {v:Value} {N:Nat→Prop} {F:Pl.Fx} {xs:List Value} (h:w.ownsRow B T 3 v F.len xs) (hc:zg5 w N F xs):zh2 w F v=zh1 w F xs:=by
 rcases h.2 with ⟨rfl,h0⟩|⟨g,cap,cur,rfl,hb,hg,hc2,hm,hsz,ht⟩
 ·cases F with
  |nil=>exact zj5 _ _
  |cons L k m=>simp [Pl.Fx.len] at h0
 ·rw [zp6];refine zy5 F xs 0 hc fun j u hj=>?_;rw [cell_of_row w g _ cur _ (0,0) hg,Nat.zero_add];rw [←ht,List.getElem?_take] at hj
  split at hj
  ·simpa using hj
  ·cases hj
def apart (w:World) (q:Nat) (k:Pl.Fx) (v:Value):Prop:=(q::zh2 w k v).Pairwise (· < ·)
theorem zw9 {w w':World} {N:Nat→Prop} (h:∀b,N b→b<w.heap.size→w'.heap[b]? =w.heap[b]?) {q:Nat} {k:Pl.Fx} {v:Value} (hl:layX w N k v) (ha:apart w q k v):apart w' q k v:=by
 show (q::_).Pairwise _;rw [zp2 h hl];exact ha
theorem zx7 {w w':World} {N:Nat→Prop} {q:Nat} {k:Pl.Fx} {v:Value} (hl:layX w N k v) (ha:apart w q k v) (b:Below w.heap.size w w'):apart w' q k v:=zw9 (fun j _ hj=>b.block j hj) hl ha
end Mem
end
section
open Go.RowKit
namespace zn9
theorem infoN:(Tryz.prog.info? 62).map (fun i=>(i.zero,i.size,i.bytes))=some (some (.agg #[.map none, .int .i64 0, .slice none 0 0]),3,40):=by kernel_rfl
structure Tk (w wr:World) (B X2 X7:Nat) (q:Nat) (L:List Pl.Nd) (m:Int) (v:Value) (F:Pl.Fx) (xs:List Value):Prop where
 bel:Below w.heap.size w wr
 big:B≤wr.heap.size
 x2:Mem.Blk wr X2 #[.map none, .int .i64 0, .slice none 0 0] 62
 x7:Mem.Blk wr X7 #[.map (some q), .int .i64 m,v] 62
 l2:w.heap.size≤X2∧X2<B
 l7:w.heap.size≤X7∧X7<B
 ne:X2≠X7
 row:wr.ownsRow B 62 3 v F.len xs
 cells:Mem.zg5 wr (fun b=>B≤b∧v.ownBlock≠some b) F xs
 lq:w.heap.size≤q∧q<B∧q≠X2∧q≠X7
 mq:Mem.ownM wr q L
 ord:(q::Mem.zh1 wr F xs).Pairwise (· < ·)
theorem ze7 {w w':World} {B n s:Nat} {T:TypeId} {v:Value} {xs:List Value} (h:w.ownsRow B T s v n xs) (b:Below w.heap.size w w'):w'.ownsRow B T s v n xs:=by
 refine ⟨h.1,?_⟩
 rcases h.2 with h0|⟨g,cap,cur,hv,hb,hg,rest⟩
 ·exact .inl h0
 ·exact .inr ⟨g,cap,cur,hv,hb,(b.block g (Array.getElem?_eq_some_iff.1 hg).1).trans hg,rest⟩
theorem zc9 {w:World} {B n s:Nat} {T:TypeId} {v:Value} {xs:List Value} (h:w.ownsRow B T s v n xs) (p:Addr) (u:Value) (hp:p.block<B):(w.setCell p u).ownsRow B T s v n xs:=by
 refine ⟨h.1,?_⟩
 rcases h.2 with h0|⟨g,cap,cur,hv,hb,hg,rest⟩
 ·exact .inl h0
 ·exact .inr ⟨g,cap,cur,hv,hb,(heap_setCell_other _ _ _ _ (by omega)).trans hg,rest⟩
theorem Tk.step {w wr w1 w4:World} {B X2 X7:Nat} {q q1:Nat} {L L1:List Pl.Nd} {m:Int} {v v1 v':Value} {F kids:Pl.Fx} {xs:List Value} {o1 o2:Obj} (h:Tk w wr B X2 X7 q L m v F xs)
  (b1:Below wr.heap.size wr w1) (hl:Mem.layX w1 (fun b=>wr.heap.size≤b) kids v1) (hq1:wr.heap.size≤q1) (hap:Mem.apart w1 q1 kids v1) (hm1:Mem.ownM w1 q1 L1)
  (own:w4.ownsRow B 62 3 v' (F.len+1) (xs++[.map (some q1), .int .i64 (kids.len:Int),v1])) (gr:((w1.alloc o1).alloc o2).grownBy w4 v.ownBlock) (far:∀g,v'.ownBlock=some g→v.ownBlock=some g∨((w1.alloc o1).alloc o2).heap.size≤g):
  Tk w (w4.setCell ⟨X7,2,none⟩ v') B X2 X7 q L m v' (F.app (.cons L1 kids .nil)) (xs++[.map (some q1), .int .i64 (kids.len:Int),v1]):=by
 have hw1:wr.heap.size≤w1.heap.size:=b1.size;have hs3:((w1.alloc o1).alloc o2).heap.size=w1.heap.size+1+1:=by simp
 have b3:Below wr.heap.size wr ((w1.alloc o1).alloc o2):=(b1.alloc hw1 o1).alloc (by simp;omega) o2;have b13:Below w1.heap.size w1 ((w1.alloc o1).alloc o2):=((Below.refl _ _).alloc (Nat.le_refl _) o1).alloc (by simp) o2;have e5:(w4.setCell ⟨X7,2,none⟩ v').heap.size=w4.heap.size:=by simp
 have hv7:some X7≠v.ownBlock:=fun e=>by have :=(h.row.lt X7 e.symm).1;have :=h.l7.2;omega
 have hv2:some X2≠v.ownBlock:=fun e=>by have :=(h.row.lt X2 e.symm).1;have :=h.l2.2;omega
 have hbig:=h.big
 have keep:∀b,B≤b→v.ownBlock≠some b→b<w1.heap.size→(w4.setCell ⟨X7,2,none⟩ v').heap[b]? =w1.heap[b]?:=fun b hb hne hlt=>by
  rw [heap_setCell_other _ _ _ _ (by show b≠X7;have :=h.l7.2;omega),gr.block b (by omega) (fun e=>hne e.symm)];exact b13.block b hlt
 have hsz:∀b,b<w1.heap.size→b<(w4.setCell ⟨X7,2,none⟩ v').heap.size:=fun b hb=>by have :=gr.size;omega
 have hnew:∀b,v.ownBlock≠some b→b<w1.heap.size→v'.ownBlock≠some b:=fun b hne hlt e=>by
  rcases far b e with h'|h'
  ·exact hne h'
  ·omega
 have hnw:∀b,wr.heap.size≤b→b<w1.heap.size→v.ownBlock≠some b:=fun b hb hlt e=>by have :=(h.row.lt b e).2;omega
 refine ⟨?_,?_,?_,?_,h.l2,h.l7,h.ne,?_,?_,h.lq,?_,?_⟩
 ·refine Below.setCell ?_ (by show w.heap.size≤X7;exact h.l7.1) _;have bw3:=h.bel.trans (b3.mono h.bel.size);refine ⟨gr.os.trans bw3.os,gr.tape.trans bw3.tape,gr.output.trans bw3.output,Nat.le_trans bw3.size gr.size,fun k hk=>?_⟩;have hk2:=h.bel.size;rw [gr.block k (by omega) (fun e=>by have :=(h.row.lt k e.symm).1;have :=h.l7;omega)];exact bw3.block k hk
 ·have :=gr.size;omega
 ·exact ((h.x2.call b3).grown gr hv2).far _ _ h.ne
 ·exact ((h.x7.call b3).grown gr hv7).put 2 v'
 ·rw [Pl.Fx.len_app];exact zc9 own _ _ h.l7.2
 ·refine Mem.cellsX_snoc ⟨by omega,hnew q1 (hnw q1 hq1 hm1.lt) hm1.lt⟩ (hm1.same (keep q1 (by omega) (hnw q1 hq1 hm1.lt) hm1.lt)) (Mem.zl0 (fun b hb hlt=>?_) hl) F xs (Mem.zw5 (fun b hb hlt=>?_) F xs h.cells)
  ·exact ⟨⟨by omega,hnew b (hnw b hb hlt) hlt⟩,hsz b hlt,keep b (by omega) (hnw b hb hlt) hlt⟩
  ·exact ⟨⟨hb.1,hnew b hb.2 (by omega)⟩,hsz b (by omega),(keep b hb.1 hb.2 (by omega)).trans (b1.block b hlt)⟩
 ·have hq:=h.mq.lt;refine h.mq.same ?_;rw [heap_setCell_other _ _ _ _ (show q≠X7 from h.lq.2.2.2),gr.block q (by omega) (fun e=>by have :=(h.row.lt q e.symm).1;have :=h.lq.2.1;omega)];exact b3.block q hq
 ·have c1:Mem.zg5 (w4.setCell ⟨X7,2,none⟩ v') (fun b=>B≤b) F xs:=Mem.zw5 (fun b hb hlt=>⟨hb.1,hsz b (by omega),(keep b hb.1 hb.2 (by omega)).trans (b1.block b hlt)⟩) F xs h.cells;have e1:Mem.zh1 (w4.setCell ⟨X7,2,none⟩ v') F xs=Mem.zh1 wr F xs:=Mem.mapsC_same (fun b hb hlt=>(keep b hb.1 hb.2 (by omega)).trans (b1.block b hlt)) F xs h.cells;have e2:Mem.zh2 (w4.setCell ⟨X7,2,none⟩ v') kids v1=Mem.zh2 w1 kids v1:=Mem.zp2 (fun b hb hlt=>keep b (by omega) (hnw b hb hlt) hlt) hl;rw [Mem.mapsC_snoc L1 kids q1 _ v1 F xs c1,e1,e2,←List.cons_append,List.pairwise_append];refine ⟨h.ord,hap,fun x hx y hy=>?_⟩
  have hxl:x<wr.heap.size:=by
   rcases List.mem_cons.1 hx with rfl |hx
   ·exact h.mq.lt
   ·exact (Mem.mapsC_in F xs h.cells x hx).2
  have hyl:wr.heap.size≤y:=by
   rcases List.mem_cons.1 hy with rfl |hy
   ·exact hq1
   ·exact (Mem.mapsL_in hl y hy).1
  omega
theorem Tk.mid {w wr w1 w4:World} {B X2 X7:Nat} {q:Nat} {L:List Pl.Nd} {m:Int} {v:Value} {F:Pl.Fx} {xs:List Value} {o1 o2:Obj} (h:Tk w wr B X2 X7 q L m v F xs)
  (b1:Below wr.heap.size wr w1) (gr:((w1.alloc o1).alloc o2).grownBy w4 v.ownBlock):Mem.Blk w4 X7 #[.map (some q), .int .i64 m,v] 62:=
 (((h.x7.call b1).alloc o1).alloc o2).grown gr (fun e=>by have :=(h.row.lt X7 e.symm).1;have :=h.l7.2;omega)
theorem Tk.conc {w wr:World} {B X2 X7:Nat} {q:Nat} {L:List Pl.Nd} {m:Int} {v:Value} {F:Pl.Fx} {xs:List Value} (h:Tk w wr B X2 X7 q L m v F xs):∃a cap,v= .slice a F.len cap:=by
 rcases h.row.2 with ⟨h1,h0⟩|⟨g,cap,cur,h1,_⟩
 ·exact ⟨none,0,by rw [h1,h0]⟩
 ·exact ⟨_,cap,h1⟩
theorem conc {w:World} {B n s:Nat} {T:TypeId} {v:Value} {xs:List Value} (h:w.ownsRow B T s v n xs):∃a cap,v= .slice a n cap:=by
 rcases h.2 with ⟨h1,h0⟩|⟨g,cap,cur,h1,_⟩
 ·exact ⟨none,0,by rw [h1,h0]⟩
 ·exact ⟨_,cap,h1⟩
theorem three_new (w:World) (cs:List Value) (T:TypeId) (o:Obj):∀j u,cs[j]? =some u→((w.alloc o).alloc (.cells cs.toArray T)).cell? ((⟨w.heap.size+1,0,none⟩:Addr).add j)=some u:=by
 intro j u hj;rw [Mem.add_lit];have :=(Mem.zg4 (w.alloc o) cs T).2 j u hj
 simpa using this
theorem Tk.done {w wr:World} {B X2 X7:Nat} {q:Nat} {L:List Pl.Nd} {m:Int} {v:Value} {F:Pl.Fx} {xs:List Value} (h:Tk w wr B X2 X7 q L m v F xs) (u0 u1 u2:Value):
  Mem.layX (((wr.setCell ⟨X2,0,none⟩ u0).setCell ⟨X2,1,none⟩ u1).setCell ⟨X2,2,none⟩ u2) (fun b=>w.heap.size≤b) F v:=by
 refine Mem.zl0 (fun b hb hlt=>⟨?_,by simpa using hlt,?_⟩) (Mem.zv5 h.row h.cells (fun b hb=>hb.1))
 ·have :=h.l2;omega
 ·have :=h.l2.2;rw [heap_setCell_other _ _ _ _ (by show b≠X2;omega),heap_setCell_other _ _ _ _ (by show b≠X2;omega),heap_setCell_other _ _ _ _ (by show b≠X2;omega)]
theorem Tk.own {w wr:World} {B X2 X7:Nat} {q:Nat} {L:List Pl.Nd} {m:Int} {v:Value} {F:Pl.Fx} {xs:List Value} (h:Tk w wr B X2 X7 q L m v F xs) (u0 u1 u2:Value):
  Mem.ownM (((wr.setCell ⟨X2,0,none⟩ u0).setCell ⟨X2,1,none⟩ u1).setCell ⟨X2,2,none⟩ u2) q L:=
 ((h.mq.set _ _ h.lq.2.2.1).set _ _ h.lq.2.2.1).set _ _ h.lq.2.2.1
theorem Tk.apart {w wr:World} {B X2 X7:Nat} {q:Nat} {L:List Pl.Nd} {m:Int} {v:Value} {F:Pl.Fx} {xs:List Value} (h:Tk w wr B X2 X7 q L m v F xs) (u0 u1 u2:Value):
  Mem.apart (((wr.setCell ⟨X2,0,none⟩ u0).setCell ⟨X2,1,none⟩ u1).setCell ⟨X2,2,none⟩ u2) q F v:=by
 have e:Mem.zh2 (((wr.setCell ⟨X2,0,none⟩ u0).setCell ⟨X2,1,none⟩ u1).setCell ⟨X2,2,none⟩ u2) F v=Mem.zh2 wr F v:=Mem.zp2 (fun b hb hlt=>by
  have :=h.l2.2
  rw [heap_setCell_other _ _ _ _ (by show b≠X2;omega),heap_setCell_other _ _ _ _ (by show b≠X2;omega),heap_setCell_other _ _ _ _ (by show b≠X2;omega)]) (Mem.zv5 h.row h.cells (fun b hb=>hb.1))
 show (q::_).Pairwise _;rw [e,Mem.mapsL_of_row h.row h.cells];exact h.ord
end zn9
end
end Go.Proofs.YtpggbphcbcogdaaGreatDoor
