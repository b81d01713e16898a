/- Several texts of one claim in one file: MemPutI, MemPick, WHdN, WMkI, MemBand. -/
import Derived.Test.YtggadpalljhiaaaGreatDoorG10
import Derived.Test.YtggadpalljhiaaaGreatDoorG05
import Derived.Test.YtggadpalljhiaaaGreatDoorG33
import Derived.Test.YtggadpalljhiaaaGreatDoorG04
namespace Go.Proofs.YtggadpalljhiaaaGreatDoor
section
open Go.RowKit
namespace Mem
theorem zq5 {W:World} {S g T size n cap:Nat} {xs:List Value} (h:W.ownsRow S T size (.slice (some ⟨g,0,none⟩) n cap) n xs) (k:Nat) (u:Value):(W.setCell ⟨g,k,none⟩ u).ownsRow S T size (.slice (some ⟨g,0,none⟩) n cap) n (xs.set k u):=by
 refine ⟨by rw [List.length_set];exact h.1,?_⟩
 rcases h.2 with ⟨e,_⟩|⟨g',c',cur,e,hb,hg,hc,hm,hs,ht⟩
 ·cases e
 ·cases e
  refine .inr ⟨g,cap,cur.setIfInBounds k u,rfl,hb,heap_setCell_same _ _ _ _ _ _ hg,hc,hm,by rw [Array.size_setIfInBounds];exact hs,?_⟩;rw [Array.toList_setIfInBounds,List.take_set,ht]
theorem zg {W:World} {S g T size n cap:Nat} {xs:List Value} (h:W.ownsRow S T size (.slice (some ⟨g,0,none⟩) n cap) n xs) {k:Nat} {u:Value} (hk:xs[k]? =some u):W.cell? ⟨g,k,none⟩=some u∧W.frozen? ⟨g,k,none⟩=false:=by
 refine ⟨?_,?_⟩
 ·have :=World.ownsRow.cells h (g:=g) rfl k u hk;rw [add_lit] at this;exact this
 ·rcases h.2 with ⟨e,_⟩|⟨g',c',cur,e,hb,hg,_⟩
  ·cases e
  ·cases e
   exact zb1 hg
end Mem
namespace Pl
theorem zy9 (x:It) (Is:List It):zb3 (x::Is)=Value.int .i64 x.m::x.t.val::zb3 Is:=rfl
theorem cellsI_tree (x:It) (t:Tr) (Rs:List It):∀Ds:List It,(zb3 (Ds++x::Rs)).set (Ds.length*2+1) t.val=zb3 (Ds++⟨x.m,t⟩::Rs):=by
 intro Ds
 induction Ds with
 |nil=>rfl
 |cons y Ds ih=>
  rw [List.cons_append,List.cons_append,zy9,zy9,List.length_cons,show (Ds.length+1)*2+1=Ds.length*2+1+1+1 by omega,List.set_cons_succ,List.set_cons_succ,ih]
theorem cellsI_many (x:It) (m:Int) (Rs:List It):(zb3 (x::Rs)).set 0 (.int .i64 m)=zb3 (⟨m,x.t⟩::Rs):=rfl
end Pl
namespace Mem
structure Cq (W:World) (S g cap:Nat) (Ds Rs:List Pl.It):Prop where
 row:W.ownsRow S 56 2 (.slice (some ⟨g,0,none⟩) (Ds.length+Rs.length) cap) (Ds.length+Rs.length) (Pl.zb3 (Ds++Rs))
 each:∀ (i:Nat) x,Ds[i]? =some x→ownN W S x.t.val x.t.L∧∀q,x.t.val.ownBlock=some q→q≠g
 apart:∀ (i j:Nat) x y,i≠j→Ds[i]? =some x→Ds[j]? =some y→∀q,x.t.val.ownBlock=some q→y.t.val.ownBlock≠some q
theorem Cq.call {W W':World} {S g cap:Nat} {Ds Rs:List Pl.It} (h:Cq W S g cap Ds Rs) (b:Below W.heap.size W W'):Cq W' S g cap Ds Rs:=
 ⟨ze8 h.row b,fun i x hx=>⟨zp7 (h.each i x hx).1 b,(h.each i x hx).2⟩,h.apart⟩
theorem Cq.step {W W1:World} {S g cap:Nat} {Ds Rs:List Pl.It} {x:Pl.It} {t:Pl.Tr} (h:Cq W S g cap Ds (x::Rs)) (b:Below W.heap.size W W1) (hS:S≤W.heap.size) (ht:ownN W1 W.heap.size t.val t.L):Cq (W1.setCell ⟨g,Ds.length*2+1,none⟩ t.val) S g cap (Ds++[⟨x.m,t⟩]) Rs:=by
 have h1:=h.call b;have hg:g<W.heap.size:=(World.ownsRow.lt h.row g rfl).2;have hgS:S≤g:=(World.ownsRow.lt h.row g rfl).1
 have off:∀ {v:Value} {L:List Pl.Nd} {B:Nat},ownN W1 B v L→(∀q,v.ownBlock=some q→q≠g)→ownN (W1.setCell ⟨g,Ds.length*2+1,none⟩ t.val) B v L:=fun {v L B} hv hn=>by
  refine ⟨hv.1,?_⟩
  rcases hv.2 with h0|⟨q,c,cur,e,hb,hq,rest⟩
  ·exact .inl h0
  ·exact .inr ⟨q,c,cur,e,hb,(heap_setCell_other _ _ _ _ (hn q (by rw [e];rfl))).trans hq,rest⟩
 have hlo:∀q,t.val.ownBlock=some q→W.heap.size≤q:=fun q hq=>(zk8 ht q hq).1;refine ⟨?_,fun i y hy=>?_,fun i j y z hij hy hz q hq=>?_⟩
 ·have h2:=zq5 h1.row (Ds.length*2+1) t.val;rw [Pl.cellsI_tree] at h2;have e:(Ds++[(⟨x.m,t⟩:Pl.It)]).length+Rs.length=Ds.length+(x::Rs).length:=by simp;omega
  rw [e,List.append_assoc];exact h2
 ·by_cases e:i<Ds.length
  ·rw [List.getElem?_append_left e] at hy;exact ⟨off (h1.each i y hy).1 (h1.each i y hy).2,(h1.each i y hy).2⟩
  ·rw [List.getElem?_append_right (by omega)] at hy
   have e0:i - Ds.length=0:=by
    have :=(List.getElem?_eq_some_iff.1 hy).1;simp at this;omega
   rw [e0] at hy;simp at hy
   subst hy;have hn:∀q,t.val.ownBlock=some q→q≠g:=fun q hq=>by have :=hlo q hq;omega
   exact ⟨off (zp3 ht hS) hn,hn⟩
 ·by_cases e:i<Ds.length
  ·rw [List.getElem?_append_left e] at hy;by_cases e2:j<Ds.length
   ·rw [List.getElem?_append_left e2] at hz;exact h.apart i j y z hij hy hz q hq
   ·rw [List.getElem?_append_right (by omega)] at hz
    have e0:j - Ds.length=0:=by
     have :=(List.getElem?_eq_some_iff.1 hz).1;simp at this;omega
    rw [e0] at hz;simp at hz
    subst hz;intro e3;have h5:=hlo q e3;have h6:=(zk8 (h.each i y hy).1 q hq).2;omega
  ·rw [List.getElem?_append_right (by omega)] at hy
   have e0:i - Ds.length=0:=by
    have :=(List.getElem?_eq_some_iff.1 hy).1;simp at this;omega
   rw [e0] at hy;simp at hy
   subst hy;have h5:=hlo q hq
   have hj:j<Ds.length:=by
    have :=(List.getElem?_eq_some_iff.1 hz).1;simp at this;omega
   rw [List.getElem?_append_left hj] at hz;intro e3;have h6:=(zk8 (h.each j z hz).1 q e3).2;omega
theorem Cq.done {W:World} {S g cap:Nat} {Ds:List Pl.It} (h:Cq W S g cap Ds []):Io W S (.slice (some ⟨g,0,none⟩) Ds.length cap) Ds:=by
 have h1:=h.row;rw [List.length_nil,Nat.add_zero,List.append_nil] at h1;exact ⟨h1,fun i x hx=>⟨(h.each i x hx).1,fun q hq e=>(h.each i x hx).2 q hq (Option.some.inj e).symm⟩,h.apart⟩
end Mem
end
section
open Go.RowKit
namespace Mem
theorem Io.many {W:World} {S g cap n:Nat} {x:Pl.It} {Rs:List Pl.It} (h:Io W S (.slice (some ⟨g,0,none⟩) n cap) (x::Rs)) (m:Int):Io (W.setCell ⟨g,0,none⟩ (.int .i64 m)) S (.slice (some ⟨g,0,none⟩) n cap) (⟨m,x.t⟩::Rs):=by
 obtain ⟨rfl, -⟩:=h.items
 have key:∀ (i:Nat) y,((⟨m,x.t⟩:Pl.It)::Rs)[i]? =some y→∃z,(x::Rs)[i]? =some z∧z.t=y.t:=fun i y hy=>by
  cases i with
  |zero=>
   have e:(⟨m,x.t⟩:Pl.It)=y:=by simpa using hy
   subst e;exact ⟨x,rfl,rfl⟩
  |succ i=>exact ⟨y,by simpa using hy,rfl⟩
 refine ⟨?_,fun i y hy=>?_,fun i j y z hij hy hz q hq=>?_⟩
 ·have h2:=zq5 h.row 0 (.int .i64 m);rw [Pl.cellsI_many] at h2;exact h2
 ·obtain ⟨z,hz,e⟩:=key i y hy;rw [←e];obtain ⟨h3,h4⟩:=h.each i z hz;exact ⟨ownN_far h3 _ _ (fun q hq e2=>h4 q hq (by rw [←e2];rfl)),h4⟩
 ·obtain ⟨y',hy',e⟩:=key i y hy;obtain ⟨z',hz',e2⟩:=key j z hz;rw [←e2];rw [←e] at hq;exact h.apart i j y' z' hij hy' hz' q hq
end Mem
namespace Pl
end Pl
end
section
open Go.RowKit
namespace zh6
set_option linter.unusedSimpArgs false in
set_option maxRecDepth 100000 in
set_option maxHeartbeats 2000000 in
theorem zd9 (a:Option Addr) (n cap K:Nat) (w:World) (hn:n≤1048576) (hK:0<K) (hK2:K≤1000000) (hv:Mem.za7 w a (Pl.zl6 K n)):
  Calls Tryz.prog 94 #[.slice a n cap, .int .i64 (K:Int)] w fun e w'=>e= .returned (.int .i64 ((K+5*n:Nat):Int))∧Below w.heap.size w w':=by
 have HV:=hide hv;clear hv;go_enter Tryz.func94,Tryz.ntmps94
 go_wp2
 go_loopw [1,5] (fun v i wr=>∃ (k q:Nat),k≤n∧q=K+5*k∧i= .int .i64 (k:Int)∧v= .int .i64 (q:Int)∧Below w.heap.size w wr) (fun _ i _=>n - (intOf i).toNat)
 case atStart=>exact ⟨0,K,Nat.zero_le _,rfl,rfl,rfl,Below.refl _ _⟩
 case round=>
  obtain ⟨k,q,hk,hq,rfl,rfl,hbel⟩:=hrel;by_cases hlt:k<n
  ·have y1:(k:Int)<(n:Int):=by omega
   have y3:(0:Int)≤(k:Int):=by omega
   obtain ⟨g,o,rfl,hg,c0,c1,c2,c3,c4⟩:=(Mem.za8 (za HV) hbel) k (Pl.zt7 K k) (by simp [Pl.zl6,List.getElem?_range hlt]);simp only [Pl.zt7,←hq] at c0 c1 c2 c3 c4;have HM:=hide (fun W=>zm4.zd8 q W (by omega) (by omega));have HM2:=hide (fun W=>zm4.zd8 (q+2) W (by omega) (by omega));rw [show ((q+2:Nat):Int)=(q:Int)+1+1 by omega] at HM2;rw [show ((q+1:Nat):Int)=(q:Int)+1 by omega] at c1;rw [show ((q+3:Nat):Int)=(q:Int)+1+1+1 by omega] at c3;rw [show ((q+4:Nat):Int)=(q:Int)+1+1+1+1 by omega] at c4;have HQ:=hide hq;have q1:(q:Int)≤100000000:=by omega
   clear hq;have MK:Hid (∀W',Below wr.heap.size wr W'→(Below wr.heap.size wr W'∧W'.cell? ⟨g,o+k*5,none⟩=some (.string (Pl.mark q))∧W'.cell? ⟨g,o+k*5+1,none⟩=some (.int .i64 ((q:Int)+1))∧W'.cell? ⟨g,o+k*5+2,none⟩=some (.string (Pl.mark (q+2)))∧W'.cell? ⟨g,o+k*5+3,none⟩=some (.int .i64 ((q:Int)+1+1+1))∧W'.cell? ⟨g,o+k*5+4,none⟩=some (.int .i64 ((q:Int)+1+1+1+1)))):=fun W' hb'=>⟨hb',(hb'.cell (p:=⟨g,_,none⟩) hg).trans c0,(hb'.cell (p:=⟨g,_,none⟩) hg).trans c1,(hb'.cell (p:=⟨g,_,none⟩) hg).trans c2,(hb'.cell (p:=⟨g,_,none⟩) hg).trans c3,(hb'.cell (p:=⟨g,_,none⟩) hg).trans c4⟩;clear c0 c1 c2 c3 c4;go_wp2_with fail
   refine RG MK (bD _) fun hHeld=>?_;refine TB 0 ?_;refine TB 1 ?_;refine TB 2 ?_;refine TB 3 ?_;refine TB 4 ?_;refine TB 5 ?_;refine RN 6 fun K hK=>?_;go_simp
   refine (za HM _).mono ?_;rintro e wA ⟨rfl,bX⟩;refine hK.out _ _ ?_ (fun hHeld=>?_)
   ·exact za MK _ (hHeld.1.trans (bX.mono hHeld.1.size))
   clear hK K
   try simp only [Act.put,kBs]
   refine TB 7 ?_;refine wpAnyH_done (by kernel_rfl) ?_ _;obtain ⟨hA, -,e1, -, -, -⟩:=hHeld;go_wp2_with fail
   refine wp_region_held_drew (S:=fun W'=>Below wr.heap.size wr W'∧W'.cell? ⟨g,o+k*5,none⟩=some (.string (Pl.mark q))∧W'.cell? ⟨g,o+k*5+1,none⟩=some (.int .i64 ((q:Int)+1))∧W'.cell? ⟨g,o+k*5+2,none⟩=some (.string (Pl.mark (q+2)))∧W'.cell? ⟨g,o+k*5+3,none⟩=some (.int .i64 ((q:Int)+1+1+1))∧W'.cell? ⟨g,o+k*5+4,none⟩=some (.int .i64 ((q:Int)+1+1+1+1))) (by kernel_rfl) ?_ (fun hHeld=>?_)
   ·exact za MK _ (hA.trans ⟨rfl,rfl,rfl,Nat.le_refl _,fun _ _=>rfl⟩)
   refine TB 0 ?_;refine TB 1 ?_;refine TB 2 ?_;refine TB 3 ?_;refine TB 4 ?_;refine TB 5 ?_;refine RN 6 fun K hK=>?_;go_simp
   refine (za HM2 _).mono ?_;rintro e wB ⟨rfl,bX⟩;refine hK.out _ _ ?_ (fun hHeld=>?_)
   ·exact za MK _ (hHeld.1.trans (bX.mono hHeld.1.size))
   clear hK K
   try simp only [Act.put,kBs]
   refine TB 7 ?_;refine wpAnyH_done (by kernel_rfl) ?_ _;obtain ⟨hB, -, -, -,e3,e4⟩:=hHeld;have hfin:=hbel.trans (hB.mono hbel.size);clear MK hA hB bX HM HM2 hbel e1;go_wp2
   go_roundw
   case rel=>exact ⟨k+1,q+5,by omega,by have :=za HQ;omega,by go_num,by go_num,hfin⟩
   case measure=>simp [intOf];omega
  ·obtain rfl:k=n:=by omega
   have y1:¬ (k:Int)<(k:Int):=by omega
   have hq2:(q:Int)=((K+5*k:Nat):Int):=by omega
   have HQ:=hide hq2;clear hq2 hq;go_wp2
   go_ret
   exact ⟨by rw [za HQ];rfl,hbel⟩
end zh6
end
section
set_option linter.unusedSimpArgs false
open Go.RowKit
namespace WMarkI
set_option maxRecDepth 100000 in
theorem layNil (K:Nat) (w:World):Calls Tryz.prog 24 #[.slice none 0 0, .int .i64 (K:Int)] w fun e w'=>e= .returned (.int .i64 (K:Int))∧Below w.heap.size w w':=by
 go_enter Tryz.func24,Tryz.ntmps24
 go_wp2
 refine wp_loop_rounds 1 ?_;rw [rounds_succ];go_wp2
 go_ret
 exact ⟨rfl,Below.refl _ _⟩
set_option maxRecDepth 100000 in
set_option maxHeartbeats 1000000 in
theorem zd9 (a:Option Addr) (cap K:Nat) (Is:List Pl.It) (w:World) (hn:Is.length≤1000) (hL:∀x∈Is,x.t.L.length≤1048576) (hK:0<K) (hK2:∀i,i≤Is.length→Pl.kAt K Is i≤100000) (hv:Mem.zb0 w a (Pl.mkTo K Is Is.length)):
  Calls Tryz.prog 70 #[.slice a Is.length cap, .int .i64 (K:Int)] w fun e w'=>e= .returned (.int .i64 (Pl.kAt K Is Is.length:Int))∧Below w.heap.size w w':=by
 have HV:Hid (∀ (j:Nat) x,Is[j]? =some x→(∃b o,a=some ⟨b,o,none⟩∧b<w.heap.size∧w.cell? ⟨b,o+j*2,none⟩=some (.int .i64 (Pl.kAt K Is j:Int))∧w.cell? ⟨b,o+j*2+1,none⟩=some (.slice x.t.a x.t.L.length x.t.cap))∧Mem.za7 w x.t.a (Pl.zl6 (Pl.kAt K Is j+1) x.t.L.length)):=hide (fun j x hx=>by
  have h:=hv j (Pl.mkIt K Is j x) (by rw [Pl.zq8,hx,Option.map_some,if_pos (List.getElem?_eq_some_iff.1 hx).1]);obtain ⟨⟨b,o,h1,h2,h3,h4⟩,h5⟩:=h;refine ⟨⟨b,o,h1,h2,h3,?_⟩,h5⟩;rw [h4]
  simp [Pl.Tr.val,Pl.mkIt,Pl.zx6])
 have HL:=hide hL;have HK2:=hide hK2;have HKG:Hid (∀i,0<Pl.kAt K Is i):=hide (fun i=>Nat.lt_of_lt_of_le hK (Pl.kAt_ge K Is i));have HKS:Hid (∀ (i:Nat) x,Is[i]? =some x→Pl.kAt K Is (i+1)=Pl.kAt K Is i+1+5*x.t.L.length):=hide (fun i x h=>Pl.kAt_succ h);have HK0:Hid (Pl.kAt K Is 0=K):=hide rfl;generalize Pl.kAt K Is=KA at HK2 HKG HKS HV HK0 ⊢;have hK3:=za HK2 Is.length (Nat.le_refl _);clear hL hK2 hv;go_enter Tryz.func70,Tryz.ntmps70
 go_wp2
 go_loopw [1,5] (fun q i wr=>∃j:Nat,j≤Is.length∧i= .int .i64 (j:Int)∧q= .int .i64 (KA j:Int)∧Below w.heap.size w wr) (fun _ i _=>Is.length - (intOf i).toNat)
 case atStart=>exact ⟨0,Nat.zero_le _,rfl,by rw [za HK0],Below.refl _ _⟩
 case round=>
  obtain ⟨j,hj,rfl,rfl,hbel⟩:=hrel;by_cases hlt:j<Is.length
  ·obtain ⟨x,hx⟩:∃x,Is[j]? =some x:=⟨_,List.getElem?_eq_getElem hlt⟩;have u1:(j:Int)<(Is.length:Int):=by omega
   have u3:(0:Int)≤(j:Int):=by omega
   have hkj:=za HK2 j hj;have hks:=za HKS j x hx;have hkk:=za HKG j;obtain ⟨⟨b,o,rfl,hb,q0,q1⟩,q2⟩:=za HV j x hx;have c0:=(hbel.cell (p:=⟨b,_,none⟩) hb).trans q0;have c1:=(hbel.cell (p:=⟨b,_,none⟩) hb).trans q1;have hcall:=hide (zh6.zd9 x.t.a x.t.L.length x.t.cap (KA j+1) wr (za HL x (List.mem_of_getElem? hx)) (by omega) (by omega) (Mem.za8 q2 hbel));have hpos:¬ ((KA j+1+5*x.t.L.length:Nat):Int)<0:=by omega
   have HKS2:=hide hks;clear hx q0 q1 q2 hks;simp only [Int.natCast_add,Int.cast_ofNat_Int] at hcall hpos;go_wp2_with fail
   refine (za hcall).mono ?_;rintro e w2 ⟨rfl,b2⟩;have hb2:=hbel.trans (b2.mono hbel.size);clear hcall b2 c0 c1 hbel;go_wp2
   go_roundw
   case rel=>exact ⟨j+1,by omega,by go_num,by rw [za HKS2];go_num,hb2⟩
   case measure=>simp [intOf];omega
  ·have u1:¬ (j:Int)<(Is.length:Int):=by omega
   obtain rfl:j=Is.length:=by omega
   go_wp2
   go_ret
   exact ⟨rfl,hbel⟩
end WMarkI
end
section
open Go.RowKit
namespace Mem
structure Band (Y X:Nat) (w w':World):Prop where
 os:w'.os=w.os
 tape:w'.tape=w.tape
 output:w'.output=w.output
 size:w.heap.size≤w'.heap.size
 block:∀j,j<w.heap.size→(j<Y∨X≤j)→w'.heap[j]? =w.heap[j]?
theorem Band.refl (Y X:Nat) (w:World):Band Y X w w:=⟨rfl,rfl,rfl,Nat.le_refl _,fun _ _ _=>rfl⟩
theorem Band.of_below {Y X:Nat} {w w':World} (b:Below w.heap.size w w'):Band Y X w w':=⟨b.os,b.tape,b.output,b.size,fun j hj _=>b.block j hj⟩
theorem Band.zw4 {Y X g:Nat} {w w':World} (b:w.grownBy w' (some g)) (h1:Y≤g) (h2:g<X):Band Y X w w':=⟨b.os,b.tape,b.output,b.size,fun j hj hh=>b.block j hj (fun e=>by cases e;omega)⟩
theorem Band.trans {Y X:Nat} {w v v':World} (h:Band Y X w v) (h':Band Y X v v'):Band Y X w v':=
 ⟨h'.os.trans h.os,h'.tape.trans h.tape,h'.output.trans h.output,Nat.le_trans h.size h'.size,fun j hj hh=>(h'.block j (Nat.lt_of_lt_of_le hj h.size) hh).trans (h.block j hj hh)⟩
theorem Band.blk {Y X g:Nat} {w w':World} {cs:Array Value} {T:TypeId} (h:Band Y X w w') (hb:Blk w g cs T) (hg:g<Y∨X≤g):Blk w' g cs T:=(h.block g hb.lt hg).trans hb
theorem Band.row {Y X B e size n:Nat} {w w':World} {v:Value} {xs:List Value} (h:Band Y X w w') (o:w.ownsRow B e size v n xs) (hg:∀g,v.ownBlock=some g→g<Y∨X≤g):w'.ownsRow B e size v n xs:=by
 refine ⟨o.1,?_⟩
 rcases o.2 with h0|⟨g,cap,cur,rfl,hb,hh,rest⟩
 ·exact .inl h0
 ·exact .inr ⟨g,cap,cur,rfl,hb,(h.block g (Array.getElem?_eq_some_iff.1 hh).1 (hg g rfl)).trans hh,rest⟩
theorem Band.of_set {Y X:Nat} {w:World} (p:Addr) (v:Value) (h1:Y≤p.block) (h2:p.block<X):Band Y X w (w.setCell p v):=
 have b:Below 0 w (w.setCell p v):=(Below.refl 0 w).setCell (Nat.zero_le _) v
 ⟨b.os,b.tape,b.output,b.size,fun j _ hh=>heap_setCell_other _ _ _ _ (by omega)⟩
end Mem
end
end Go.Proofs.YtggadpalljhiaaaGreatDoor
