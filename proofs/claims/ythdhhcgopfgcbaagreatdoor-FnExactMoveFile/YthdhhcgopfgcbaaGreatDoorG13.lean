/- Several texts of one claim in one file: MemIo, WItemsOf, WItemsR. -/
import Derived.Test.YthdhhcgopfgcbaaGreatDoorPlainCells
import Derived.Test.YthdhhcgopfgcbaaGreatDoorG09
import Derived.Test.YthdhhcgopfgcbaaGreatDoorMapPutL
namespace Go.Proofs.YthdhhcgopfgcbaaGreatDoor
section
open Go.RowKit
namespace Mem
theorem row_off2 {w w':World} {B e size n:Nat} {v:Value} {xs:List Value} {r:Option Nat} (h:w.ownsRow B e size v n xs) (hg:w.grownBy w' r) (hr:∀g,v.ownBlock=some g→some g≠r):w'.ownsRow B e size v n xs:=by
 refine ⟨h.1,?_⟩
 rcases h.2 with h0|⟨g,cap,cur,rfl,hb,hh,rest⟩
 ·exact .inl h0
 ·exact .inr ⟨g,cap,cur,rfl,hb,(hg.block g (Array.getElem?_eq_some_iff.1 hh).1 (hr g rfl)).trans hh,rest⟩
structure Io (W:World) (S:Nat) (v:Value) (Is:List Pl.It):Prop where
 row:W.ownsRow S 53 2 v Is.length (Pl.zd7 Is)
 each:∀ (i:Nat) x,Is[i]? =some x→ownN W S x.t.val x.t.L∧∀g,x.t.val.ownBlock=some g→v.ownBlock≠some g
 apart:∀ (i j:Nat) x y,i≠j→Is[i]? =some x→Is[j]? =some y→∀g,x.t.val.ownBlock=some g→y.t.val.ownBlock≠some g
theorem Io.call {W W':World} {S:Nat} {v:Value} {Is:List Pl.It} (h:Io W S v Is) (b:Below W.heap.size W W'):Io W' S v Is:=
 ⟨zj2 h.row b,fun i x hx=>⟨zg7 (h.each i x hx).1 b,(h.each i x hx).2⟩,h.apart⟩
theorem Io.mono {W:World} {S S':Nat} {v:Value} {Is:List Pl.It} (h:Io W S v Is) (hs:S'≤S):Io W S' v Is:=
 ⟨zr5 h.row hs,fun i x hx=>⟨zb3 (h.each i x hx).1 hs,(h.each i x hx).2⟩,h.apart⟩
theorem Io.set {W:World} {S:Nat} {v:Value} {Is:List Pl.It} (h:Io W S v Is) (p:Addr) (u:Value) (hp:p.block<S):Io (W.setCell p u) S v Is:=by
 refine ⟨⟨h.row.1,?_⟩,fun i x hx=>⟨za8 (h.each i x hx).1 p u hp,(h.each i x hx).2⟩,h.apart⟩
 rcases h.row.2 with h0|⟨g,cap,cur,hv,hb,hg,rest⟩
 ·exact .inl h0
 ·exact .inr ⟨g,cap,cur,hv,hb,(heap_setCell_other _ _ _ _ (by omega)).trans hg,rest⟩
theorem Io.app {W W':World} {S S1:Nat} {v v1 v':Value} {Is Is1:List Pl.It} (h:Io W S v Is) (h1:Io W S1 v1 Is1) (hS:S≤S1) (hv:∀g,v.ownBlock=some g→g<S1) (hb:∀ (i:Nat) x,Is[i]? =some x→∀g,x.t.val.ownBlock=some g→g<S1)
  (own':W'.ownsRow S 53 2 v' (Is.length+Is1.length) (Pl.zd7 Is++Pl.zd7 Is1)) (gr:W.grownBy W' v.ownBlock) (far:∀g,v'.ownBlock=some g→v.ownBlock=some g∨W.heap.size≤g):Io W' S v' (Is++Is1):=by
 have key:∀x:Pl.It,ownN W S x.t.val x.t.L→(∀g,x.t.val.ownBlock=some g→v.ownBlock≠some g)→ownN W' S x.t.val x.t.L∧∀g,x.t.val.ownBlock=some g→v'.ownBlock≠some g:=fun x hx hn=>
  ⟨row_off2 hx gr (fun g hg e=>hn g hg e.symm),fun g hg e=>by
   rcases far g e with h2|h2
   ·exact hn g hg h2
   ·have :=(ze3 hx g hg).2;omega⟩
 have lo1:∀ (i:Nat) x,Is1[i]? =some x→∀g,x.t.val.ownBlock=some g→S1≤g:=fun i x hx g hg=>(ze3 (h1.each i x hx).1 g hg).1;refine ⟨by rw [List.length_append,Pl.cellsI_app];exact own',fun i x hx=>?_,fun i j x y hij hx hy g hg=>?_⟩
 ·by_cases e:i<Is.length
  ·rw [List.getElem?_append_left e] at hx;exact key x (h.each i x hx).1 (h.each i x hx).2
  ·rw [List.getElem?_append_right (by omega)] at hx;exact key x (zb3 (h1.each _ x hx).1 hS) (fun g hg e2=>by have :=lo1 _ x hx g hg;have :=hv g e2;omega)
 ·by_cases e:i<Is.length
  ·rw [List.getElem?_append_left e] at hx;by_cases e2:j<Is.length
   ·rw [List.getElem?_append_left e2] at hy;exact h.apart i j x y hij hx hy g hg
   ·rw [List.getElem?_append_right (by omega)] at hy;intro e3;have :=lo1 _ y hy g e3;have :=hb i x hx g hg;omega
  ·rw [List.getElem?_append_right (by omega)] at hx;by_cases e2:j<Is.length
   ·rw [List.getElem?_append_left e2] at hy;intro e3;have :=lo1 _ x hx g hg;have :=hb j y hy g e3;omega
   ·rw [List.getElem?_append_right (by omega)] at hy;exact h1.apart _ _ x y (by omega) hx hy g hg
theorem Io.items {W:World} {S cap n:Nat} {a:Option Addr} {Is:List Pl.It} (h:Io W S (.slice a n cap) Is):n=Is.length∧zb0 W a Is:=by
 rcases h.row.2 with ⟨e,h0⟩|⟨g,c,cur,e,hb,hg,rest⟩
 ·cases e
  have :Is=[]:=List.eq_nil_of_length_eq_zero h0;subst this;exact ⟨rfl,yc8 _ _⟩
 ·cases e
  refine ⟨rfl,fun i x hx=>⟨⟨g,0,rfl,(Array.getElem?_eq_some_iff.1 hg).1,?_,?_⟩,(ze9 (h.each i x hx).1).2⟩⟩
  ·have :=World.ownsRow.cells h.row (g:=g) rfl (i*2) _ (Pl.zu8 Is i x hx).1;rw [add_lit] at this;rw [Nat.zero_add];exact this
  ·have :=World.ownsRow.cells h.row (g:=g) rfl (i*2+1) _ (Pl.zu8 Is i x hx).2;rw [add_lit] at this;rw [Nat.zero_add];exact this
theorem Io.lt {W:World} {S:Nat} {v:Value} {Is:List Pl.It} (h:Io W S v Is):(∀g,v.ownBlock=some g→S≤g∧g<W.heap.size)∧∀ (i:Nat) x,Is[i]? =some x→∀g,x.t.val.ownBlock=some g→S≤g∧g<W.heap.size:=
 ⟨fun g hg=>World.ownsRow.lt h.row g hg,fun i x hx g hg=>ze3 (h.each i x hx).1 g hg⟩
theorem Io.there {W:World} {S:Nat} {v:Value} {Is:List Pl.It} (h:Io W S v Is) (hn:Is.length≠0):∃g cap,v= .slice (some ⟨g,0,none⟩) Is.length cap∧∀j u,(Pl.zd7 Is)[j]? =some u→W.cell? ((⟨g,0,none⟩:Addr).add j)=some u:=by
 rcases h.row.2 with ⟨e,h0⟩|⟨g,c,cur,e,hb,hg,rest⟩
 ·exact absurd h0 hn
 ·subst e;exact ⟨g,c,rfl,fun j u hj=>World.ownsRow.cells h.row (g:=g) rfl j u hj⟩
theorem Io.nil (W:World) (S:Nat):Io W S (.slice none 0 0) []:=⟨⟨rfl, .inl ⟨rfl,rfl⟩⟩,fun i x h=>(by cases h),fun i j x y _ h=>(by cases h)⟩
theorem Io.one {W:World} {S g:Nat} {m:Int} {t:Pl.Tr} (hb:S≤g) (hg:W.heap[g]? =some (.cells #[.int .i64 m,t.val] 53 (0,0))) (ht:ownN W S t.val t.L) (hn:∀q,t.val.ownBlock=some q→q≠g):Io W S (.slice (some ⟨g,0,none⟩) 1 1) [⟨m,t⟩]:=by
 refine ⟨⟨rfl, .inr ⟨g,1,_,rfl,hb,hg,Nat.le_refl _,by decide,rfl,rfl⟩⟩,fun i x hx=>?_,fun i j x y hij hx hy=>?_⟩
 ·cases i with
  |zero=>
   have e:(⟨m,t⟩:Pl.It)=x:=by simpa using hx
   subst e;exact ⟨ht,fun q hq e=>hn q hq (Option.some.inj e).symm⟩
  |succ i=>simp at hx
 ·cases i with
  |zero=>
   cases j with
   |zero=>exact absurd rfl hij
   |succ j=>simp at hy
  |succ i=>simp at hx
end Mem
end
section
set_option linter.unusedSimpArgs false
open Go.RowKit Go.Maps
namespace yg6
set_option maxRecDepth 100000 in
theorem rise_nil (w:World):
  Calls Tryz.prog 110 #[.map none] w fun e w'=>∃v,e= .returned v∧Mem.ownN w' w.heap.size v []∧Below w.heap.size w w':=by
 have hmk:=zm6.makeC 0 (by omega) w;rw [show ((0:Nat):Int)=0 from rfl] at hmk;have hr:∀W:World,(Instr.range 78 (.map none)).run Tryz.prog W= .ok (.pointer (some ⟨W.heap.size,0,none⟩)) (W.alloc (.mapIter none 0 #[] 0)):=fun W=>run_range_nilMap W _ _ _ Tryz.underlying78;have hnx:∀ (W:World) (ty:TypeId),(Instr.next (.pointer (some ⟨W.heap.size,0,none⟩)) false ty).run Tryz.prog (W.alloc (.mapIter none 0 #[] 0))= .ok (.tuple #[.bool false]) (W.alloc (.mapIter none 0 #[] 0)):=fun W ty=>run_next_nilMap W ty 0 0 #[]
 have OW0:Hid (Mem.ownN (w.alloc (.cells (zm6.zeros 0) 47)) w.heap.size (.slice (some ⟨w.heap.size,0,none⟩) 0 0) []):=
  ⟨rfl, .inr ⟨w.heap.size,_,_,rfl,Nat.le_refl _,heap_alloc_new _ _,Nat.zero_le _,by decide,size_madeCells _ _,rfl⟩⟩
 have hnx0:=hnx (w.alloc (.cells (zm6.zeros 0) 47));rw [show (w.alloc (.cells (zm6.zeros 0) 47)).heap.size=w.heap.size+1 by simp] at hnx0;have OW1:=hide (Mem.zf5 (za OW0) (.mapIter none 0 #[] 0));have hs:=hide (zm6.sort_own (.slice (some ⟨w.heap.size,0,none⟩) 0 0) w.heap.size [] ((w.alloc (.cells (zm6.zeros 0) 47)).alloc (.mapIter none 0 #[] 0)) (fun t ht=>by cases ht) (by simp) (za OW1));have b1:Below w.heap.size w ((w.alloc (.cells (zm6.zeros 0) 47)).alloc (.mapIter none 0 #[] 0)):=((Below.refl _ _).alloc (Nat.le_refl _) _).alloc (by simp) _;clear OW0;go_enter Tryz.func110,Tryz.ntmps110
 go_wp2
 go_loopw [3] (fun v wr=>v= .slice (some ⟨w.heap.size,0,none⟩) 0 0∧wr=(w.alloc (.cells (zm6.zeros 0) 47)).alloc (.mapIter none 0 #[] 0)) (fun _ _=>0)
 case atStart=>exact ⟨rfl,rfl⟩
 case round=>
  obtain ⟨rfl,rfl⟩:=hrel;go_wp2_with fail
  refine (za hs).mono ?_;rintro e w2 ⟨rfl,S,h1,h2,h3,h4⟩;have eS:S=[]:=List.Perm.eq_nil h1;subst eS;have O2:=hide h3;have bw:=b1.grown h4 b1.size (fun q hq=>by cases hq;exact Nat.le_refl _);clear hs h1 h2 h3 h4 b1 OW1 hr hnx hnx0 hmk;go_wp2
  go_ret
  exact ⟨_,rfl,za O2,bw⟩
def selfM (w:World) (qo:Option Nat) (L:List Pl.Nd):Prop:=(∃q,qo=some q∧Mem.ownM w q L)∨(qo=none∧L=[])
theorem selfM.call {w w':World} {qo:Option Nat} {L:List Pl.Nd} (h:selfM w qo L) (b:Below w.heap.size w w'):selfM w' qo L:=by
 rcases h with ⟨q,h1,h2⟩|h
 ·exact .inl ⟨q,h1,h2.call b⟩
 ·exact .inr h
theorem infoI:(Tryz.prog.info? 53).map (fun i=>(i.zero,i.size,i.bytes))=some (some (.agg #[.int .i64 0, .slice none 0 0]),2,32):=by kernel_rfl
end yg6
end
section
open Go.RowKit
namespace Pl
def Fx.okR:Fx→Prop
 | .nil=>True
 | .cons L k m=>zc9 L∧(k= .nil∨L=[])∧k.len≤4∧k.okR∧m.okR
theorem Fx.okR_of {X:Fx} (h:X.okX):X.okR:=by
 induction X with
 |nil=>trivial
 |cons L k m ih1 ih2=>exact ⟨zc9.zr0 h.1,h.2.1,h.2.2.1,ih1 h.2.2.2.1,ih2 h.2.2.2.2⟩
end Pl
namespace yg6
theorem rise_rise (B:Nat) (L:List Pl.Nd) (w:World) (ht:Pl.zc9 L) (hm:Mem.ownM w B L):
  Calls Tryz.prog 110 #[.map (some B)] w fun e w'=>∃v,e= .returned v∧Mem.ownN w' w.heap.size v L∧Below w.heap.size w w':=
 zm6.any B 40 L L (MapN.mapOf L) w hm (by omega) (MapN.zj6 ht.apart) ht.apart (List.Perm.refl _) ht.rise ht.path
theorem rise_selfR (qo:Option Nat) (L:List Pl.Nd) (w:World) (ht:Pl.zc9 L) (h:selfM w qo L):
  Calls Tryz.prog 110 #[.map qo] w fun e w'=>∃v,e= .returned v∧Mem.ownN w' w.heap.size v L∧Below w.heap.size w w':=by
 rcases h with ⟨q,rfl,hm⟩|⟨rfl,rfl⟩
 ·exact rise_rise q L w ht hm
 ·exact rise_nil w
set_option linter.unusedSimpArgs false in
set_option maxRecDepth 100000 in
set_option maxHeartbeats 2000000 in
theorem items_ofR (n:Nat) (hn:n≤1000):∀ (N:Nat→Prop) (K:Pl.Fx) (L:List Pl.Nd) (qo:Option Nat) (m:Int) (v:Value) (w:World),K.sz<n→Pl.zc9 L→K.okR→selfM w qo L→Mem.layX w N K v→
  Calls Tryz.prog 92 #[.agg #[.map qo, .int .i64 m,v]] w fun e w'=>∃v' Is,e= .returned v'∧Mem.Io w' w.heap.size v' Is∧Is.map Pl.It.r=(m,L)::K.flat∧Below w.heap.size w w':=by
 obtain ⟨i0,hi,hz0,hz1,hz2⟩:=info_parts infoI
 induction n with
 |zero=>intro N K L qo m v w h;omega
 |succ n ih=>
  intro N K L qo m v w hs ht hx hm hl;have hKl:K.len≤1000:=by have :=K.len_le;omega
  obtain ⟨a,cap,rfl,hrow⟩:=hl;have b0:Below w.heap.size w (w.alloc (.cells #[.map qo, .int .i64 m, .slice a K.len cap] 83)):=bE0;have A0:=Mem.Blk.new w #[.map qo, .int .i64 m, .slice a K.len cap] 83;have hri:=hide (fun W (b:Below (w.alloc (.cells #[.map qo, .int .i64 m, .slice a K.len cap] 83)).heap.size (w.alloc (.cells #[.map qo, .int .i64 m, .slice a K.len cap] 83)) W)=>rise_selfR qo L W ht ((hm.call b0).call b))
  have HRW:Hid (K= .nil∨∃b',a=some ⟨b',0,none⟩∧Mem.rowX (w.alloc (.cells #[.map qo, .int .i64 m, .slice a K.len cap] 83)) (fun b=>b<w.heap.size) K b' 0):=by
   rcases hrow with h|⟨g,h1, -,h2⟩
   ·exact .inl h
   ·exact .inr ⟨g,h1,Mem.zp4 (Mem.zn8 (N':=fun b=>b<w.heap.size) (fun b _ hb=>⟨hb,hb,rfl⟩) K g 0 h2) b0⟩
  have HI:=hide (ih (by omega));have HKX:=hide hx;obtain ⟨c0,c1⟩:=jc2 A0;have HX1:Hid (w.heap.size<(w.alloc (.cells #[.map qo, .int .i64 m, .slice a K.len cap] 83)).heap.size):=A0.lt;clear ih hrow hx hm ht;go_enter Tryz.func92,Tryz.ntmps92
  go_wp2_with fail
  generalize w.alloc (.cells #[.map qo, .int .i64 m, .slice a K.len cap] 83)=w1 at b0 A0 hri HRW c0 c1 HX1 ⊢;have MK:Hid (∀W',Below w1.heap.size w1 W'→(fun W'=>Below w1.heap.size w1 W'∧W'.cell? ⟨w.heap.size,0,none⟩=some (.map qo)∧W'.cell? ⟨w.heap.size,1,none⟩=some (.int .i64 m)) W'):=fun W' hb=>⟨hb,(hb.cell (p:=⟨w.heap.size,0,none⟩) (za HX1)).trans c0,(hb.cell (p:=⟨w.heap.size,1,none⟩) (za HX1)).trans c1⟩;clear c0 c1;refine wp_region_held_drew (S:=fun W'=>Below w1.heap.size w1 W'∧W'.cell? ⟨w.heap.size,0,none⟩=some (.map qo)∧W'.cell? ⟨w.heap.size,1,none⟩=some (.int .i64 m)) (by kernel_rfl) ?_ (fun hHeld=>?_)
  ·exact za MK _ (bD _)
  refine TB 0 ?_;refine TB 1 ?_;refine TB 2 ?_;refine TB 3 ?_;refine TB 4 ?_;refine TB 5 ?_;refine RN 6 fun K hK=>?_;go_simp
  refine (za hri _ hHeld.1).mono ?_;rintro e wX ⟨vr,rfl,ownr,bX⟩;obtain ⟨ra,rc,hvr⟩:=Mem.za4 ownr;subst hvr;have hlr:w.heap.size+1≤_:=Nat.le_trans (za HX1) hHeld.1.size;refine hK.out _ _ ?_ (fun hHeld=>?_)
  ·exact za MK _ (hHeld.1.trans (bX.mono hHeld.1.size))
  clear hK K
  try simp only [Act.put,kBs]
  refine TB 7 ?_;refine TB 8 ?_;refine RN 9 fun K hK=>?_;go_simp
  refine hK.out _ _ ?_ (fun hHeld=>?_)
  ·exact za MK _ (hHeld.1.alloc hHeld.1.size _)
  clear hK K
  try simp only [Act.put,kBs]
  refine TB 10 ?_;refine wpAnyH_done (by kernel_rfl) ?_ _;have hb3:=hHeld.1;have bw3:=b0.trans (hb3.mono b0.size);have bA:Below wX.heap.size wX (wX.alloc (.cells #[.int .i64 m, .slice ra L.length rc] 53)):=bE0;have IO0:Hid (Mem.Io (wX.alloc (.cells #[.int .i64 m, .slice ra L.length rc] 53)) (w.heap.size+1) (.slice (some ⟨wX.heap.size,0,none⟩) 1 1) [⟨m,⟨ra,rc,L⟩⟩]):=hide (Mem.Io.one (t:=⟨ra,rc,L⟩) (by have h2:=bX.size;omega) (heap_alloc_new _ _) (Mem.zb3 (Mem.zg7 ownr bA) hlr) (fun q hq e=>by have :=(Mem.ze3 ownr q hq).2;omega));have A3:=A0.call hb3
  have RW3:Hid (K= .nil∨∃b',a=some ⟨b',0,none⟩∧Mem.rowX (wX.alloc (.cells #[.int .i64 m, .slice ra L.length rc] 53)) (fun b=>b<w.heap.size) K b' 0):=by
   rcases za HRW with h|⟨g,h1,h2⟩
   ·exact .inl h
   ·exact .inr ⟨g,h1,Mem.zp4 h2 hb3⟩
  have c2:=A3.cell 2;simp only [kGs] at c2;have HSZ:Hid (w.heap.size+1≤(wX.alloc (.cells #[.int .i64 m, .slice ra L.length rc] 53)).heap.size):=hide (by have h1:=A3.lt;omega);clear hHeld MK hri HRW A0 A3 b0 ownr bX bA hb3 hlr;generalize wX.alloc (.cells #[.int .i64 m, .slice ra L.length rc] 53)=w3 at bw3 IO0 RW3 c2 HSZ ⊢;have IT0:Hid ((([⟨m,⟨ra,rc,L⟩⟩]:List Pl.It)).map Pl.It.r++K.flat=(m,L)::K.flat):=rfl;go_wp2
  go_loopw [3,19] (fun v i wr=>∃ (j:Nat) (Is:List Pl.It) (F:Pl.Fx),i= .int .i64 (j:Int)∧j+F.len=K.len∧F.sz≤n∧Hid (Is.length+F.sz=K.sz+1)∧Below w.heap.size w wr∧Hid (w.heap.size+1≤wr.heap.size)∧Hid (Mem.Io wr (w.heap.size+1) v Is)∧Hid (F= .nil∨∃b',a=some ⟨b',0,none⟩∧Mem.rowX wr (fun b=>b<w.heap.size) F b' (j*3))∧Hid F.okR∧Hid (Is.map Pl.It.r++F.flat=(m,L)::K.flat)) (fun _ i _=>K.len - (intOf i).toNat)
  case atStart=>exact ⟨0,_,K,rfl,by omega,by omega,hide (by simp;omega),bw3,HSZ,IO0,hide (by simpa using za RW3),HKX,IT0⟩
  case round=>
   obtain ⟨j,Is,F,rfl,hj,hsz,HIL,hbel,HSW,IO,HR,FX,IM⟩:=hrel;clear IO0 RW3 HSZ IT0 c2 bw3;cases F with
   |nil=>
    simp only [Pl.Fx.len] at hj;have u1:¬ (j:Int)<(K.len:Int):=by omega
    have E:Hid (Is.map Pl.It.r=(m,L)::K.flat):=hide (by have :=za IM;rw [Pl.Fx.flat,List.append_nil] at this;exact this);have IOM:=hide ((za IO).mono (show w.heap.size≤w.heap.size+1 by omega));clear IO HR FX IM HIL;go_wp2
    go_ret
    first |exact ⟨_,Is,rfl,za IOM,za E,hbel⟩|exact ⟨_,rfl,Is,za IOM,za E,hbel⟩
   |cons L1 k1 m1=>
    simp only [Pl.Fx.len,Pl.Fx.sz] at hj hsz;obtain ⟨g1,g2,g3,g5,g6⟩:=za FX
    rcases za HR with h|⟨g,rfl,hrw⟩
    ·cases h
    obtain ⟨⟨q1,a1,cap1,c0,c1,c2,hg,hNg,hNq,hm1,hsub⟩,hrest⟩:=hrw;have u1:(j:Int)<(K.len:Int):=by omega
    have u3:(0:Int)≤(j:Int):=by omega
    have HJ:=hide hj;have bA:Below wr.heap.size wr (wr.alloc (.cells #[.map (some q1), .int .i64 (k1.len:Int), .slice a1 k1.len cap1] 83)):=bE0;have HL:Mem.layX wr (fun b=>b<w.heap.size) k1 (.slice a1 k1.len cap1):=⟨a1,cap1,rfl,hsub⟩;have bw:=hbel.trans (bA.mono hbel.size);have hcall:=hide (za HI (fun b=>b<w.heap.size) k1 L1 (some q1) (k1.len:Int) _ _ (by omega) g1 g5 (.inl ⟨q1,rfl,hm1.call bA⟩) (Mem.zk4 HL bA));have HRR:=hide (Mem.zp4 hrest bA);have IA:=hide ((za IO).call bA);have G6:=hide g6;have HIL2:=HIL;have hlo:=(za IO).lt;have hsA:(wr.alloc (.cells #[.map (some q1), .int .i64 (k1.len:Int), .slice a1 k1.len cap1] 83)).heap.size=wr.heap.size+1:=by simp
    have HLO:=hide hlo;have HSA:=hide hsA;clear hsub hrest HL HR IO FX g1 g2 g5 g6 hm1 hlo hsA;go_wp2_with fail
    refine (za hcall).mono ?_;rintro e wX2 ⟨v1,Is1,rfl,io1,hr1,bX⟩;have bw2:=bw.trans (bX.mono bw.size);have hIl:Is1.length=k1.sz+1:=by have :=congrArg List.length hr1;rw [List.length_map,List.length_cons,Pl.Fx.zw6] at this;exact this
    obtain ⟨gv,cv,hv1,hcv⟩:=io1.there (by omega);subst hv1;have O2:=(za IA).call bX;have HP:=hide (fun v' w4 own gr far=>O2.app io1 (v':=v') (W':=w4) (by have :=za HSW;have :=za HSA;omega) (fun g hg=>by have :=((za HLO).1 g hg).2;have :=za HSA;omega) (fun i x hx g hg=>by have :=((za HLO).2 i x hx g hg).2;have :=za HSA;omega) own gr far);have HQ:=hide (fun w4 (h2:wX2.grownBy w4 _)=>(⟨bw2.grown h2 bw2.size (fun k hk=>by have :=(O2.lt.1 k hk).1;omega),Mem.zn8 (fun b hb hlt=>⟨hb,Nat.lt_of_lt_of_le hlt h2.size,h2.block b hlt (fun e=>by have :=(O2.lt.1 b e.symm).1;omega)⟩) _ _ _ (Mem.zp4 (za HRR) bX)⟩:Below w.heap.size w w4∧Mem.rowX w4 (fun b=>b<w.heap.size) m1 g (j*3+3)));have HRO:=hide O2.row;have HSB:Hid (w.heap.size+1≤wX2.heap.size):=hide (by have h1:=za HSW;have h2:=bX.size;have h3:=za HSA;omega);have HCV:=hide hcv
    have IM2:Hid ((Is++Is1).map Pl.It.r++m1.flat=(m,L)::K.flat):=hide (by have h:=za IM;rw [Pl.Fx.flat] at h;rw [List.map_append,hr1,←h];simp);have HIL3:Hid ((Is++Is1).length+m1.sz=K.sz+1):=hide (by have h:=za HIL2;simp only [Pl.Fx.sz] at h;rw [List.length_append];omega);have hIs:Is.length≤1001:=by have h:=za HIL2;omega
    have hIs1:Is1.length≤1001:=by omega
    clear O2 IA io1 hr1 bX bw bw2 hcall HRR IM hcv HIL HIL2 HLO HSA bA hIl HSW hbel;go_wp2_with (at_builtin;refine Mem.ze1 _ rfl _ _ 24 rfl (w.heap.size+1) 53 i0 (.agg #[.int .i64 0, .slice none 0 0]) 2 32 Tryz.underlying24 hi hz0 hz1 hz2 rfl (by decide) _ _ _ rfl (za HRO) ⟨gv,0,none⟩ Is1.length cv (Pl.zd7 Is1) rfl (Pl.yg8 Is1) (za HCV) (Pl.yn2 Is1) (by unfold maxLen;omega) (by omega) (za HSB) ?_)
    intro v' w4 own' hgrow hfar;have I2:=hide (za HP v' w4 own' hgrow hfar);obtain ⟨bw4,HR2⟩:=za HQ w4 hgrow;have HR3:Hid (m1= .nil∨∃b',some ⟨g,0,none⟩=some (⟨b',0,none⟩:Addr)∧Mem.rowX w4 (fun b=>b<w.heap.size) m1 b' ((j+1)*3)):=hide (.inr ⟨g,rfl,by rw [show (j+1)*3=j*3+3 by omega];exact HR2⟩);have HS4:Hid (w.heap.size+1≤w4.heap.size):=hide (by have h1:=hgrow.size;have h2:=za HSB;omega);clear HP HQ HRO own' hgrow hfar HR2 HCV HSB;go_wp2
    go_roundw
    case rel=>exact ⟨j+1,Is++Is1,m1,by go_num,by have h:=za HJ;omega,by omega,HIL3,bw4,HS4,I2,HR3,G6,IM2⟩
    case measure=>(have h:=za HJ;simp [intOf];omega)
end yg6
end
end Go.Proofs.YthdhhcgopfgcbaaGreatDoor
