/- Several texts of one claim in one file: MemPutI, MemPick, TakeB, WHdN, WMkI, MemBand, WMkB, WMkY, WMkM. -/
import Derived.Test.YtgdjjncmocppeaaGreatDoorPlainMkZ
import Derived.Deep.Cut
namespace Go.Proofs.YtgdjjncmocppeaaGreatDoor
section
open Go.RowKit
namespace Mem
theorem own_put {W:World} {S g T size n cap:Nat} {xs:List Value} (h:W.ownsRow S T size (.slice (some ⟨g,0,none⟩) n cap) n xs) (k:Nat) (u:Value):(W.setCell ⟨g,k,none⟩ u).ownsRow S T size (.slice (some ⟨g,0,none⟩) n cap) n (xs.set k u):=by
 refine ⟨by rw [List.length_set];exact h.1,?_⟩
 rcases h.2 with ⟨e,_⟩|⟨g',c',cur,e,hb,hg,hc,hm,hs,ht⟩
 ·cases e
 ·cases e
  refine .inr ⟨g,cap,cur.setIfInBounds k u,rfl,hb,heap_setCell_same _ _ _ _ _ _ hg,hc,hm,by rw [Array.size_setIfInBounds];exact hs,?_⟩;rw [Array.toList_setIfInBounds,List.take_set,ht]
theorem zy8 {W:World} {S g T size n cap:Nat} {xs:List Value} (h:W.ownsRow S T size (.slice (some ⟨g,0,none⟩) n cap) n xs) {k:Nat} {u:Value} (hk:xs[k]? =some u):W.cell? ⟨g,k,none⟩=some u∧W.frozen? ⟨g,k,none⟩=false:=by
 refine ⟨?_,?_⟩
 ·have :=World.ownsRow.cells h (g:=g) rfl k u hk;rw [add_lit] at this;exact this
 ·rcases h.2 with ⟨e,_⟩|⟨g',c',cur,e,hb,hg,_⟩
  ·cases e
  ·cases e
   exact zb4 hg
end Mem
namespace Pl
theorem yd9 (x:It) (Is:List It):zc4 (x::Is)=Value.int .i64 x.m::x.t.val::zc4 Is:=rfl
theorem cellsI_tree (x:It) (t:Tr) (Rs:List It):∀Ds:List It,(zc4 (Ds++x::Rs)).set (Ds.length*2+1) t.val=zc4 (Ds++⟨x.m,t⟩::Rs):=by
 intro Ds
 induction Ds with
 |nil=>rfl
 |cons y Ds ih=>
  rw [List.cons_append,List.cons_append,yd9,yd9,List.length_cons,show (Ds.length+1)*2+1=Ds.length*2+1+1+1 by omega,List.set_cons_succ,List.set_cons_succ,ih]
theorem cellsI_many (x:It) (m:Int) (Rs:List It):(zc4 (x::Rs)).set 0 (.int .i64 m)=zc4 (⟨m,x.t⟩::Rs):=rfl
end Pl
namespace Mem
structure Cq (W:World) (S g cap:Nat) (Ds Rs:List Pl.It):Prop where
 row:W.ownsRow S 143 2 (.slice (some ⟨g,0,none⟩) (Ds.length+Rs.length) cap) (Ds.length+Rs.length) (Pl.zc4 (Ds++Rs))
 each:∀ (i:Nat) x,Ds[i]? =some x→ownN W S x.t.val x.t.L∧∀q,x.t.val.ownBlock=some q→q≠g
 apart:∀ (i j:Nat) x y,i≠j→Ds[i]? =some x→Ds[j]? =some y→∀q,x.t.val.ownBlock=some q→y.t.val.ownBlock≠some q
theorem Cq.call {W W':World} {S g cap:Nat} {Ds Rs:List Pl.It} (h:Cq W S g cap Ds Rs) (b:Below W.heap.size W W'):Cq W' S g cap Ds Rs:=
 ⟨zq8 h.row b,fun i x hx=>⟨ownN_call (h.each i x hx).1 b,(h.each i x hx).2⟩,h.apart⟩
theorem Cq.step {W W1:World} {S g cap:Nat} {Ds Rs:List Pl.It} {x:Pl.It} {t:Pl.Tr} (h:Cq W S g cap Ds (x::Rs)) (b:Below W.heap.size W W1) (hS:S≤W.heap.size) (ht:ownN W1 W.heap.size t.val t.L):Cq (W1.setCell ⟨g,Ds.length*2+1,none⟩ t.val) S g cap (Ds++[⟨x.m,t⟩]) Rs:=by
 have h1:=h.call b;have hg:g<W.heap.size:=(World.ownsRow.lt h.row g rfl).2;have hgS:S≤g:=(World.ownsRow.lt h.row g rfl).1
 have off:∀ {v:Value} {L:List Pl.Nd} {B:Nat},ownN W1 B v L→(∀q,v.ownBlock=some q→q≠g)→ownN (W1.setCell ⟨g,Ds.length*2+1,none⟩ t.val) B v L:=fun {v L B} hv hn=>by
  refine ⟨hv.1,?_⟩
  rcases hv.2 with h0|⟨q,c,cur,e,hb,hq,rest⟩
  ·exact .inl h0
  ·exact .inr ⟨q,c,cur,e,hb,(heap_setCell_other _ _ _ _ (hn q (by rw [e];rfl))).trans hq,rest⟩
 have hlo:∀q,t.val.ownBlock=some q→W.heap.size≤q:=fun q hq=>(zt8 ht q hq).1;refine ⟨?_,fun i y hy=>?_,fun i j y z hij hy hz q hq=>?_⟩
 ·have h2:=own_put h1.row (Ds.length*2+1) t.val;rw [Pl.cellsI_tree] at h2;have e:(Ds++[(⟨x.m,t⟩:Pl.It)]).length+Rs.length=Ds.length+(x::Rs).length:=by simp;omega
  rw [e,List.append_assoc];exact h2
 ·by_cases e:i<Ds.length
  ·rw [List.getElem?_append_left e] at hy;exact ⟨off (h1.each i y hy).1 (h1.each i y hy).2,(h1.each i y hy).2⟩
  ·rw [List.getElem?_append_right (by omega)] at hy
   have e0:i - Ds.length=0:=by
    have :=(List.getElem?_eq_some_iff.1 hy).1;simp at this;omega
   rw [e0] at hy;simp at hy
   subst hy;have hn:∀q,t.val.ownBlock=some q→q≠g:=fun q hq=>by have :=hlo q hq;omega
   exact ⟨off (ya7 ht hS) hn,hn⟩
 ·by_cases e:i<Ds.length
  ·rw [List.getElem?_append_left e] at hy;by_cases e2:j<Ds.length
   ·rw [List.getElem?_append_left e2] at hz;exact h.apart i j y z hij hy hz q hq
   ·rw [List.getElem?_append_right (by omega)] at hz
    have e0:j - Ds.length=0:=by
     have :=(List.getElem?_eq_some_iff.1 hz).1;simp at this;omega
    rw [e0] at hz;simp at hz
    subst hz;intro e3;have h5:=hlo q e3;have h6:=(zt8 (h.each i y hy).1 q hq).2;omega
  ·rw [List.getElem?_append_right (by omega)] at hy
   have e0:i - Ds.length=0:=by
    have :=(List.getElem?_eq_some_iff.1 hy).1;simp at this;omega
   rw [e0] at hy;simp at hy
   subst hy;have h5:=hlo q hq
   have hj:j<Ds.length:=by
    have :=(List.getElem?_eq_some_iff.1 hz).1;simp at this;omega
   rw [List.getElem?_append_left hj] at hz;intro e3;have h6:=(zt8 (h.each j z hz).1 q e3).2;omega
theorem Cq.done {W:World} {S g cap:Nat} {Ds:List Pl.It} (h:Cq W S g cap Ds []):Io W S (.slice (some ⟨g,0,none⟩) Ds.length cap) Ds:=by
 have h1:=h.row;rw [List.length_nil,Nat.add_zero,List.append_nil] at h1;exact ⟨h1,fun i x hx=>⟨(h.each i x hx).1,fun q hq e=>(h.each i x hx).2 q hq (Option.some.inj e).symm⟩,h.apart⟩
end Mem
end
section
open Go.RowKit
namespace Mem
theorem Io.many {W:World} {S g cap n:Nat} {x:Pl.It} {Rs:List Pl.It} (h:Io W S (.slice (some ⟨g,0,none⟩) n cap) (x::Rs)) (m:Int):Io (W.setCell ⟨g,0,none⟩ (.int .i64 m)) S (.slice (some ⟨g,0,none⟩) n cap) (⟨m,x.t⟩::Rs):=by
 obtain ⟨rfl, -⟩:=h.items
 have key:∀ (i:Nat) y,((⟨m,x.t⟩:Pl.It)::Rs)[i]? =some y→∃z,(x::Rs)[i]? =some z∧z.t=y.t:=fun i y hy=>by
  cases i with
  |zero=>
   have e:(⟨m,x.t⟩:Pl.It)=y:=by simpa using hy
   subst e;exact ⟨x,rfl,rfl⟩
  |succ i=>exact ⟨y,by simpa using hy,rfl⟩
 refine ⟨?_,fun i y hy=>?_,fun i j y z hij hy hz q hq=>?_⟩
 ·have h2:=own_put h.row 0 (.int .i64 m);rw [Pl.cellsI_many] at h2;exact h2
 ·obtain ⟨z,hz,e⟩:=key i y hy;rw [←e];obtain ⟨h3,h4⟩:=h.each i z hz;exact ⟨ownN_far h3 _ _ (fun q hq e2=>h4 q hq (by rw [←e2];rfl)),h4⟩
 ·obtain ⟨y',hy',e⟩:=key i y hy;obtain ⟨z',hz',e2⟩:=key j z hz;rw [←e2];rw [←e] at hq;exact h.apart i j y' z' hij hy' hz' q hq
end Mem
namespace Pl
end Pl
end
section
open Go.RowKit
theorem TB {P:Program} {md:Region.Mode} {ops:Array Oper} {Q:Exit→Act→World→Prop} {S:World→Prop} {oi:Oper} {v:Value} {fuel:Nat} {listed l2:Array Bool} {a a2:Act} {w:World} (i:Nat)
  (h:wpAnyH P md ops Q S fuel l2 a2 w) (hi:ops[i]? =some oi:=by exact rfl)
  (hs:Region.noSelect ops=true:=by kernel_rfl) (hf:Region.free md ops listed i=true:=by kernel_rfl) (hr:(Region.ready md ops listed).contains i=true:=by kernel_rfl)
  (hw:Region.wanted oi (yielded ops a.tmps)=true:=by first |kernel_rfl|rfl)
  (hy:∀w,S w→(execOp a.eval oi).run P w= .ok (.value v) w:=by (intro w hSw;(try dsimp only at hSw);go_simp;(try with_reducible rfl)))
  (hl:listed.setIfInBounds i true=l2:=by ((try simp only [kBs]);exact rfl)) (hp:a.put oi.dst v=a2:=by ((try simp only [Act.put,kBs]);exact rfl))
  (hQ:∀c a w,Q (.panic c) (a.put oi.dst v) w→Q (.panic c) a w:=by first |exact fun _ _ _ h=>h|exact fun _ _ _ h=>nomatch h.1) (hS:S w:=by assumption):wpAnyH P md ops Q S (fuel+1) listed a w:=by
 subst hl;subst hp;exact wpAnyH_take hi hs hf hr hQ (Or.inl ⟨hw,hy⟩) hS h
theorem TC {P:Program} {md:Region.Mode} {ops:Array Oper} {Q:Exit→Act→World→Prop} {S:World→Prop} {oi:Oper} {fuel:Nat} {listed l2:Array Bool} {a a2:Act} {w:World} (i:Nat)
  (h:wpAnyH P md ops Q S fuel l2 a2 w) (hi:ops[i]? =some oi:=by exact rfl)
  (hs:Region.noSelect ops=true:=by kernel_rfl) (hf:Region.free md ops listed i=true:=by kernel_rfl) (hr:(Region.ready md ops listed).contains i=true:=by kernel_rfl)
  (hw:Region.wanted oi (yielded ops a.tmps)=false:=by first |kernel_rfl|rfl)
  (hl:listed.setIfInBounds i true=l2:=by ((try simp only [kBs]);exact rfl)) (hp:a.put oi.dst undef=a2:=by ((try simp only [Act.put,kBs]);exact rfl))
  (hQ:∀c a w,Q (.panic c) (a.put oi.dst undef) w→Q (.panic c) a w:=by first |exact fun _ _ _ h=>h|exact fun _ _ _ h=>nomatch h.1) (hS:S w:=by assumption):wpAnyH P md ops Q S (fuel+1) listed a w:=by
 subst hl;subst hp;exact wpAnyH_take hi hs hf hr hQ (Or.inr ⟨hw,rfl⟩) hS h
theorem bD {n:Nat} (w:World):Below n w w.drew:=⟨rfl,rfl,rfl,Nat.le_refl _,fun _ _=>rfl⟩
theorem RN {P:Program} {md:Region.Mode} {ops:Array Oper} {Q:Exit→Act→World→Prop} {S:World→Prop} {o:Oper} {fuel:Nat} {listed:Array Bool} {a:Act} {w:World} (i:Nat)
  (h:∀K':Act→World→Prop,Shut (∀a w,S w→(S w→wpAnyH P md ops Q S fuel (listed.setIfInBounds i true) a w)→K' a w)→if Region.wanted o (yielded ops a.tmps)=true then Oper.wp P o a w K' Q else K' (a.put o.dst undef) w)
  (ho:ops[i]? =some o:=by exact rfl) (hr:Region.ready md ops listed=[i]:=by kernel_rfl):wpAnyH P md ops Q S (fuel+1) listed a w:=
 wpAnyH_ready hr (by simp) (AllReadyH.cons ho h AllReadyH.nil)
theorem RG {P:Program} {ops:Array Oper} {Q:Exit→Act→World→Prop} {S:World→Prop} {id B:Nat} {a:Act} {w w0:World} (MK:Hid (∀W',Below B w0 W'→S W')) (b:Below B w0 w.drew)
  (h:S w.drew→wpAnyH P .any ops Q S ops.size (Array.replicate ops.size false) a w.drew) (hm:P.follows .mixedOrders=true:=by kernel_rfl):(Code.region id ops true).wp P Q a w:=
 wp_region_held_drew hm (MK _ b) h
end
section
open Go.RowKit
namespace zi6
set_option linter.unusedSimpArgs false in
set_option maxRecDepth 100000 in
set_option maxHeartbeats 2000000 in
theorem zf4 (a:Option Addr) (n cap K:Nat) (w:World) (hn:n≤1048576) (hK:0<K) (hK2:K≤1000000) (hv:Mem.za9 w a (Pl.zo4 K n)):
  Calls Tryz.prog 120 #[.slice a n cap, .int .i64 (K:Int)] w fun e w'=>e= .returned (.int .i64 ((K+5*n:Nat):Int))∧Below w.heap.size w w':=by
 have HV:=hide hv;clear hv;go_enter Tryz.func120,Tryz.ntmps120
 go_wp2
 go_loopw [1,5] (fun v i wr=>∃ (k q:Nat),k≤n∧q=K+5*k∧i= .int .i64 (k:Int)∧v= .int .i64 (q:Int)∧Below w.heap.size w wr) (fun _ i _=>n - (intOf i).toNat)
 case atStart=>exact ⟨0,K,Nat.zero_le _,rfl,rfl,rfl,Below.refl _ _⟩
 case round=>
  obtain ⟨k,q,hk,hq,rfl,rfl,hbel⟩:=hrel;by_cases hlt:k<n
  ·have y1:(k:Int)<(n:Int):=by omega
   have y3:(0:Int)≤(k:Int):=by omega
   obtain ⟨g,o,rfl,hg,c0,c1,c2,c3,c4⟩:=(Mem.za7 (za HV) hbel) k (Pl.zx0 K k) (by simp [Pl.zo4,List.getElem?_range hlt]);simp only [Pl.zx0,←hq] at c0 c1 c2 c3 c4;have HM:=hide (fun W=>zp7.ze0 q W (by omega) (by omega));have HM2:=hide (fun W=>zp7.ze0 (q+2) W (by omega) (by omega));rw [show ((q+2:Nat):Int)=(q:Int)+1+1 by omega] at HM2;rw [show ((q+1:Nat):Int)=(q:Int)+1 by omega] at c1;rw [show ((q+3:Nat):Int)=(q:Int)+1+1+1 by omega] at c3;rw [show ((q+4:Nat):Int)=(q:Int)+1+1+1+1 by omega] at c4;have HQ:=hide hq;have q1:(q:Int)≤100000000:=by omega
   clear hq;have MK:Hid (∀W',Below wr.heap.size wr W'→(Below wr.heap.size wr W'∧W'.cell? ⟨g,o+k*5,none⟩=some (.string (Pl.mark q))∧W'.cell? ⟨g,o+k*5+1,none⟩=some (.int .i64 ((q:Int)+1))∧W'.cell? ⟨g,o+k*5+2,none⟩=some (.string (Pl.mark (q+2)))∧W'.cell? ⟨g,o+k*5+3,none⟩=some (.int .i64 ((q:Int)+1+1+1))∧W'.cell? ⟨g,o+k*5+4,none⟩=some (.int .i64 ((q:Int)+1+1+1+1)))):=fun W' hb'=>⟨hb',(hb'.cell (p:=⟨g,_,none⟩) hg).trans c0,(hb'.cell (p:=⟨g,_,none⟩) hg).trans c1,(hb'.cell (p:=⟨g,_,none⟩) hg).trans c2,(hb'.cell (p:=⟨g,_,none⟩) hg).trans c3,(hb'.cell (p:=⟨g,_,none⟩) hg).trans c4⟩;clear c0 c1 c2 c3 c4;go_wp2_with fail
   refine RG MK (bD _) fun hHeld=>?_;refine TB 0 ?_;refine TB 1 ?_;refine TB 2 ?_;refine TB 3 ?_;refine TB 4 ?_;refine TB 5 ?_;refine RN 6 fun K hK=>?_;go_simp
   refine (za HM _).mono ?_;rintro e wA ⟨rfl,bX⟩;refine hK.out _ _ ?_ (fun hHeld=>?_)
   ·exact za MK _ (hHeld.1.trans (bX.mono hHeld.1.size))
   clear hK K
   try simp only [Act.put,kBs]
   refine TB 7 ?_;refine wpAnyH_done (by kernel_rfl) ?_ _;obtain ⟨hA, -,e1, -, -, -⟩:=hHeld;go_wp2_with fail
   refine wp_region_held_drew (S:=fun W'=>Below wr.heap.size wr W'∧W'.cell? ⟨g,o+k*5,none⟩=some (.string (Pl.mark q))∧W'.cell? ⟨g,o+k*5+1,none⟩=some (.int .i64 ((q:Int)+1))∧W'.cell? ⟨g,o+k*5+2,none⟩=some (.string (Pl.mark (q+2)))∧W'.cell? ⟨g,o+k*5+3,none⟩=some (.int .i64 ((q:Int)+1+1+1))∧W'.cell? ⟨g,o+k*5+4,none⟩=some (.int .i64 ((q:Int)+1+1+1+1))) (by kernel_rfl) ?_ (fun hHeld=>?_)
   ·exact za MK _ (hA.trans ⟨rfl,rfl,rfl,Nat.le_refl _,fun _ _=>rfl⟩)
   refine TB 0 ?_;refine TB 1 ?_;refine TB 2 ?_;refine TB 3 ?_;refine TB 4 ?_;refine TB 5 ?_;refine RN 6 fun K hK=>?_;go_simp
   refine (za HM2 _).mono ?_;rintro e wB ⟨rfl,bX⟩;refine hK.out _ _ ?_ (fun hHeld=>?_)
   ·exact za MK _ (hHeld.1.trans (bX.mono hHeld.1.size))
   clear hK K
   try simp only [Act.put,kBs]
   refine TB 7 ?_;refine wpAnyH_done (by kernel_rfl) ?_ _;obtain ⟨hB, -, -, -,e3,e4⟩:=hHeld;have hfin:=hbel.trans (hB.mono hbel.size);clear MK hA hB bX HM HM2 hbel e1;go_wp2
   go_roundw
   case rel=>exact ⟨k+1,q+5,by omega,by have :=za HQ;omega,by go_num,by go_num,hfin⟩
   case measure=>simp [intOf];omega
  ·obtain rfl:k=n:=by omega
   have y1:¬ (k:Int)<(k:Int):=by omega
   have hq2:(q:Int)=((K+5*k:Nat):Int):=by omega
   have HQ:=hide hq2;clear hq2 hq;go_wp2
   go_ret
   exact ⟨by rw [za HQ];rfl,hbel⟩
end zi6
end
section
set_option linter.unusedSimpArgs false
open Go.RowKit
namespace WMarkI
set_option maxRecDepth 100000 in
theorem layNil (K:Nat) (w:World):Calls Tryz.prog 92 #[.slice none 0 0, .int .i64 (K:Int)] w fun e w'=>e= .returned (.int .i64 (K:Int))∧Below w.heap.size w w':=by
 go_enter Tryz.func92,Tryz.ntmps92
 go_wp2
 refine wp_loop_rounds 1 ?_;rw [rounds_succ];go_wp2
 go_ret
 exact ⟨rfl,Below.refl _ _⟩
set_option maxRecDepth 100000 in
set_option maxHeartbeats 1000000 in
theorem zf4 (a:Option Addr) (cap K:Nat) (Is:List Pl.It) (w:World) (hn:Is.length≤1000) (hL:∀x∈Is,x.t.L.length≤1048576) (hK:0<K) (hK2:∀i,i≤Is.length→Pl.kAt K Is i≤100000) (hv:Mem.zb2 w a (Pl.mkTo K Is Is.length)):
  Calls Tryz.prog 93 #[.slice a Is.length cap, .int .i64 (K:Int)] w fun e w'=>e= .returned (.int .i64 (Pl.kAt K Is Is.length:Int))∧Below w.heap.size w w':=by
 have HV:Hid (∀ (j:Nat) x,Is[j]? =some x→(∃b o,a=some ⟨b,o,none⟩∧b<w.heap.size∧w.cell? ⟨b,o+j*2,none⟩=some (.int .i64 (Pl.kAt K Is j:Int))∧w.cell? ⟨b,o+j*2+1,none⟩=some (.slice x.t.a x.t.L.length x.t.cap))∧Mem.za9 w x.t.a (Pl.zo4 (Pl.kAt K Is j+1) x.t.L.length)):=hide (fun j x hx=>by
  have h:=hv j (Pl.mkIt K Is j x) (by rw [Pl.zu3,hx,Option.map_some,if_pos (List.getElem?_eq_some_iff.1 hx).1]);obtain ⟨⟨b,o,h1,h2,h3,h4⟩,h5⟩:=h;refine ⟨⟨b,o,h1,h2,h3,?_⟩,h5⟩;rw [h4]
  simp [Pl.Tr.val,Pl.mkIt,Pl.ya9])
 have HL:=hide hL;have HK2:=hide hK2;have HKG:Hid (∀i,0<Pl.kAt K Is i):=hide (fun i=>Nat.lt_of_lt_of_le hK (Pl.kAt_ge K Is i));have HKS:Hid (∀ (i:Nat) x,Is[i]? =some x→Pl.kAt K Is (i+1)=Pl.kAt K Is i+1+5*x.t.L.length):=hide (fun i x h=>Pl.kAt_succ h);have HK0:Hid (Pl.kAt K Is 0=K):=hide rfl;generalize Pl.kAt K Is=KA at HK2 HKG HKS HV HK0 ⊢;have hK3:=za HK2 Is.length (Nat.le_refl _);clear hL hK2 hv;go_enter Tryz.func93,Tryz.ntmps93
 go_wp2
 go_loopw [1,5] (fun q i wr=>∃j:Nat,j≤Is.length∧i= .int .i64 (j:Int)∧q= .int .i64 (KA j:Int)∧Below w.heap.size w wr) (fun _ i _=>Is.length - (intOf i).toNat)
 case atStart=>exact ⟨0,Nat.zero_le _,rfl,by rw [za HK0],Below.refl _ _⟩
 case round=>
  obtain ⟨j,hj,rfl,rfl,hbel⟩:=hrel;by_cases hlt:j<Is.length
  ·obtain ⟨x,hx⟩:∃x,Is[j]? =some x:=⟨_,List.getElem?_eq_getElem hlt⟩;have u1:(j:Int)<(Is.length:Int):=by omega
   have u3:(0:Int)≤(j:Int):=by omega
   have hkj:=za HK2 j hj;have hks:=za HKS j x hx;have hkk:=za HKG j;obtain ⟨⟨b,o,rfl,hb,q0,q1⟩,q2⟩:=za HV j x hx;have c0:=(hbel.cell (p:=⟨b,_,none⟩) hb).trans q0;have c1:=(hbel.cell (p:=⟨b,_,none⟩) hb).trans q1;have hcall:=hide (zi6.zf4 x.t.a x.t.L.length x.t.cap (KA j+1) wr (za HL x (List.mem_of_getElem? hx)) (by omega) (by omega) (Mem.za7 q2 hbel));have hpos:¬ ((KA j+1+5*x.t.L.length:Nat):Int)<0:=by omega
   have HKS2:=hide hks;clear hx q0 q1 q2 hks;simp only [Int.natCast_add,Int.cast_ofNat_Int] at hcall hpos;go_wp2_with fail
   refine (za hcall).mono ?_;rintro e w2 ⟨rfl,b2⟩;have hb2:=hbel.trans (b2.mono hbel.size);clear hcall b2 c0 c1 hbel;go_wp2
   go_roundw
   case rel=>exact ⟨j+1,by omega,by go_num,by rw [za HKS2];go_num,hb2⟩
   case measure=>simp [intOf];omega
  ·have u1:¬ (j:Int)<(Is.length:Int):=by omega
   obtain rfl:j=Is.length:=by omega
   go_wp2
   go_ret
   exact ⟨rfl,hbel⟩
end WMarkI
end
section
open Go.RowKit
namespace Mem
structure Band (Y X:Nat) (w w':World):Prop where
 os:w'.os=w.os
 tape:w'.tape=w.tape
 output:w'.output=w.output
 size:w.heap.size≤w'.heap.size
 block:∀j,j<w.heap.size→(j<Y∨X≤j)→w'.heap[j]? =w.heap[j]?
theorem Band.refl (Y X:Nat) (w:World):Band Y X w w:=⟨rfl,rfl,rfl,Nat.le_refl _,fun _ _ _=>rfl⟩
theorem Band.of_below {Y X:Nat} {w w':World} (b:Below w.heap.size w w'):Band Y X w w':=⟨b.os,b.tape,b.output,b.size,fun j hj _=>b.block j hj⟩
theorem Band.zu4 {Y X g:Nat} {w w':World} (b:w.grownBy w' (some g)) (h1:Y≤g) (h2:g<X):Band Y X w w':=⟨b.os,b.tape,b.output,b.size,fun j hj hh=>b.block j hj (fun e=>by cases e;omega)⟩
theorem Band.trans {Y X:Nat} {w v v':World} (h:Band Y X w v) (h':Band Y X v v'):Band Y X w v':=
 ⟨h'.os.trans h.os,h'.tape.trans h.tape,h'.output.trans h.output,Nat.le_trans h.size h'.size,fun j hj hh=>(h'.block j (Nat.lt_of_lt_of_le hj h.size) hh).trans (h.block j hj hh)⟩
theorem Band.below {Y X B:Nat} {w v v':World} (h:Band Y X v v') (b:Below B w v) (hB:B≤Y) (hs:B≤v.heap.size):Below B w v':=
 ⟨h.os.trans b.os,h.tape.trans b.tape,h.output.trans b.output,Nat.le_trans b.size h.size,fun j hj=>(h.block j (by omega) (.inl (by omega))).trans (b.block j hj)⟩
theorem Band.blk {Y X g:Nat} {w w':World} {cs:Array Value} {T:TypeId} (h:Band Y X w w') (hb:Blk w g cs T) (hg:g<Y∨X≤g):Blk w' g cs T:=(h.block g hb.lt hg).trans hb
theorem Band.row {Y X B e size n:Nat} {w w':World} {v:Value} {xs:List Value} (h:Band Y X w w') (o:w.ownsRow B e size v n xs) (hg:∀g,v.ownBlock=some g→g<Y∨X≤g):w'.ownsRow B e size v n xs:=by
 refine ⟨o.1,?_⟩
 rcases o.2 with h0|⟨g,cap,cur,rfl,hb,hh,rest⟩
 ·exact .inl h0
 ·exact .inr ⟨g,cap,cur,rfl,hb,(h.block g (Array.getElem?_eq_some_iff.1 hh).1 (hg g rfl)).trans hh,rest⟩
theorem Band.of_set {Y X:Nat} {w:World} (p:Addr) (v:Value) (h1:Y≤p.block) (h2:p.block<X):Band Y X w (w.setCell p v):=
 have b:Below 0 w (w.setCell p v):=(Below.refl 0 w).setCell (Nat.zero_le _) v
 ⟨b.os,b.tape,b.output,b.size,fun j _ hh=>heap_setCell_other _ _ _ _ (by omega)⟩
end Mem
end
section
open Go.RowKit
namespace WMkB
theorem lay_one {w:World} {B g i K:Nat} {Js:List Pl.It} {x:Pl.It} (o:Mem.OwnI w B g Js) (hx:Js[i]? =some x) (hn:x.t.L.length≤1048576) (hK:0<K) (hK2:K≤1000000):
  Calls Tryz.prog 92 #[.slice x.t.a x.t.L.length x.t.cap, .int .i64 (K:Int)] w fun e w'=>e= .returned (.int .i64 ((K+5*x.t.L.length:Nat):Int))∧Mem.OwnI w' B g (Js.set i ⟨x.m,⟨x.t.a,x.t.cap,Pl.zo4 K x.t.L.length⟩⟩)∧(∀G,(∀h,x.t.a=some ⟨h,0,none⟩→h<G)→Mem.Band B G w w'):=by
 rcases o.own i x hx with ⟨e1,e2,e3⟩|⟨h,c,k1,k2,k3,k4,k5⟩
 ·rw [e1,e2,e3];refine (WMarkI.layNil K w).mono fun e w' ⟨he,b⟩=>⟨he,?_,fun _ _=>Mem.Band.of_below b⟩
  have :Js.set i ⟨x.m,⟨none,0,Pl.zo4 K 0⟩⟩=Js:=by
   apply List.ext_getElem?
   intro j;rw [List.getElem?_set];by_cases e:i=j
   ·subst e;rw [if_pos rfl,if_pos (List.getElem?_eq_some_iff.1 hx).1,hx];obtain ⟨m,a,cap,L⟩:=x;simp only at e1 e2 e3;subst e1 e2 e3;rfl
   ·rw [if_neg e]
  simp only [List.length_nil];rw [this];exact o.call b
 ·rw [k1];refine (zi6.lay_any h x.t.L.length x.t.cap K c w hn hK (Nat.le_trans hK2 (by decide)) k4 k5).mono fun e w' ⟨he,⟨c',r1,r2⟩,hnd,gr⟩=>⟨he,?_,fun G hb=>?_⟩
  ·have :=o.nodes hx k1 gr ⟨c',r1,by omega⟩ hnd (Pl.ya9 _ _);rw [k1] at this;exact this
  ·exact Mem.Band.zu4 gr k2 (hb h rfl)
set_option linter.unusedSimpArgs false in
set_option maxRecDepth 100000 in
set_option maxHeartbeats 1000000 in
theorem ze0 (B g cap K G:Nat) (Is:List Pl.It) (w:World) (hn:Is.length≤1000) (hL:∀x∈Is,x.t.L.length≤1048576) (hK:0<K) (hK2:∀i,i≤Is.length→Pl.kAt K Is i≤100000) (o:Mem.OwnI w B g Is) (hgG:g<G) (hG:∀x∈Is,∀h,x.t.a=some ⟨h,0,none⟩→h<G):
  Calls Tryz.prog 63 #[.slice (some ⟨g,0,none⟩) Is.length cap, .int .i64 (K:Int)] w fun e w'=>e= .returned (.int .i64 (Pl.kAt K Is Is.length:Int))∧Mem.OwnI w' B g (Pl.mkTo K Is Is.length)∧Mem.Band B G w w':=by
 have HO0:Hid (Mem.OwnI w B g (Pl.mkTo K Is 0)):=hide (by rw [Pl.mkTo_zero];exact o);have HL:=hide hL;have HG:=hide hG;have HK2:=hide hK2;have HKG:Hid (∀i,0<Pl.kAt K Is i):=hide (fun i=>Nat.lt_of_lt_of_le hK (Pl.kAt_ge K Is i));have HKS:Hid (∀ (i:Nat) x,Is[i]? =some x→Pl.kAt K Is (i+1)=Pl.kAt K Is i+1+5*x.t.L.length):=hide (fun i x h=>Pl.kAt_succ h);have HMG:Hid (∀ (i:Nat) x,Is[i]? =some x→(Pl.mkTo K Is i)[i]? =some x):=hide (fun i x h=>by rw [Pl.zu3,h];simp);have HMS:Hid (∀ (i:Nat) x,Is[i]? =some x→((Pl.mkTo K Is i).set i ⟨((Pl.kAt K Is i:Nat):Int),x.t⟩).set i ⟨((Pl.kAt K Is i:Nat):Int),⟨x.t.a,x.t.cap,Pl.zo4 (Pl.kAt K Is i+1) x.t.L.length⟩⟩=Pl.mkTo K Is (i+1)):=hide (fun i x h=>by rw [List.set_set];exact Pl.mkTo_succ K h);have HML:Hid (∀i,(Pl.mkTo K Is i).length=Is.length):=hide (fun i=>Pl.zu6 K Is i);have HK0:Hid (Pl.kAt K Is 0=K):=hide rfl
 generalize Pl.mkTo K Is=MT at HO0 HMG HMS HML ⊢;generalize Pl.kAt K Is=KA at HK2 HKG HKS HMS HK0 ⊢;have hK3:=za HK2 Is.length (Nat.le_refl _);clear hL hK2 o hG;go_enter Tryz.func63,Tryz.ntmps63
 go_wp2
 go_loopw [1,5] (fun q i wr=>∃j:Nat,j≤Is.length∧i= .int .i64 (j:Int)∧q= .int .i64 (KA j:Int)∧Hid (Mem.OwnI wr B g (MT j))∧Hid (Mem.Band B G w wr)) (fun _ i _=>Is.length - (intOf i).toNat)
 case atStart=>exact ⟨0,Nat.zero_le _,rfl,by rw [za HK0],HO0,Mem.Band.refl _ _ _⟩
 case round=>
  obtain ⟨j,hj,rfl,rfl,HO,hbel⟩:=hrel;clear HO0;by_cases hlt:j<Is.length
  ·obtain ⟨x,hx⟩:∃x,Is[j]? =some x:=⟨_,List.getElem?_eq_getElem hlt⟩;have hmx:=za HMG j x hx;have u1:(j:Int)<(Is.length:Int):=by omega
   have u3:(0:Int)≤(j:Int):=by omega
   have hkj:=za HK2 j hj;have hks:=za HKS j x hx;have hkk:=za HKG j;obtain ⟨cur,r1,r2⟩:=(za HO).row;rw [za HML] at r2;obtain ⟨x0,s0⟩:∃x,wr.cell? ⟨g,j*2,none⟩=some x:=⟨_,(cell_of_row wr _ (j*2) _ _ (0,0) r1).trans (Array.getElem?_eq_getElem (by omega))⟩;have f0:wr.frozen? ⟨g,j*2,none⟩=false:=Mem.zb4 r1;have O1:=(za HO).many hmx ((KA j:Nat):Int)
   have hx1:((MT j).set j ⟨((KA j:Nat):Int),x.t⟩)[j]? =some ⟨((KA j:Nat):Int),x.t⟩:=by
    rw [List.getElem?_set,if_pos rfl,if_pos (by rw [za HML];exact hlt)]
   obtain ⟨⟨b',o',e', -, -,c1⟩, -⟩:=O1.items j _ hx1;cases e'
   simp only [Pl.Tr.val,Nat.zero_add] at c1;have hcall:=hide (lay_one (K:=KA j+1) O1 hx1 (za HL x (List.mem_of_getElem? hx)) (by omega) (by omega));have HST:=hide (za HMS j x hx);have hb1:Mem.Band B G w (wr.setCell ⟨g,j*2,none⟩ (.int .i64 ((KA j:Nat):Int))):=(za hbel).trans (Mem.Band.of_set _ _ (za HO).lo hgG);have HGX:=hide (za HG x (List.mem_of_getElem? hx));have hs1:(wr.setCell ⟨g,j*2,none⟩ (.int .i64 ((KA j:Nat):Int))).heap.size=wr.heap.size:=by simp
   have HB1:=hide hb1;have HKS2:=hide hks;clear hx hmx r1 r2 O1 hx1 HO hbel hks hb1;simp only [Int.natCast_add,Int.cast_ofNat_Int] at hcall;go_wp2_with fail
   refine (za hcall).mono ?_;rintro e w2 ⟨rfl,o2,b2⟩;have hb2:=hide ((za HB1).trans (b2 G (za HGX)));rw [za HST] at o2;have HO2:=hide o2;clear hcall o2 b2 s0 f0 c1 HB1;go_wp2
   go_roundw
   case rel=>exact ⟨j+1,by omega,by go_num,by rw [za HKS2];go_num,HO2,hb2⟩
   case measure=>simp [intOf];omega
  ·have u1:¬ (j:Int)<(Is.length:Int):=by omega
   obtain rfl:j=Is.length:=by omega
   go_wp2
   go_ret
   exact ⟨rfl,za HO,za hbel⟩
end WMkB
end
section
open Go.RowKit
namespace WMkY
structure Mz (W:World) (S:Nat) (a:Option Addr) (cap K:Nat) (N:List Pl.Ns) (lo hi:Nat→Nat) (j:Nat):Prop where
 row:W.ownsRow S 105 2 (.slice a N.length cap) N.length (Pl.zh2 (Pl.mkZ K N j))
 each:∀ (i:Nat) x,N[i]? =some x→S≤lo i∧hi i≤W.heap.size∧(∀g,(Value.slice a N.length cap).ownBlock=some g→g<lo i∨hi i≤g)∧∃g,x.a=some ⟨g,0,none⟩∧Mem.OwnB W (lo i) (hi i) g (if i<j then Pl.mkTo (Pl.kZ K N i+1) x.Is x.Is.length else x.Is)
 rise:∀i k,i<k→k<N.length→hi i≤lo k
theorem Mz.start {W:World} {S cap:Nat} {a:Option Addr} {N:List Pl.Ns} {lo hi:Nat→Nat} (K:Nat) (h:Mem.Iz W S (.slice a N.length cap) N lo hi) (hn:∀x∈N,x.Is.length≠0):Mz W S a cap K N lo hi 0:=
 ⟨by rw [Pl.mkZ_zero];exact h.row,fun i x hx=>by
  obtain ⟨h1,h2,h3,h4,h5⟩:=h.each i x hx;obtain ⟨g,e,o⟩:=h1.own (hn x (List.mem_of_getElem? hx))
  exact ⟨h2,h4,h5,g,e,by rw [if_neg (by omega)];exact o⟩,h.rise⟩
theorem Mz.call {W W':World} {S cap K j:Nat} {a:Option Addr} {N:List Pl.Ns} {lo hi:Nat→Nat} (h:Mz W S a cap K N lo hi j) (b:Below W.heap.size W W'):Mz W' S a cap K N lo hi j:=
 ⟨Mem.zq8 h.row b,fun i x hx=>by
  obtain ⟨h1,h2,h3,g,h4,h5⟩:=h.each i x hx
  exact ⟨h1,Nat.le_trans h2 b.size,h3,g,h4,h5.same b.size (fun q _ _ hq=>b.block q hq)⟩,h.rise⟩
theorem Mz.zj0 {W:World} {S cap K:Nat} {a:Option Addr} {N:List Pl.Ns} {lo hi:Nat→Nat} (h:Mz W S a cap K N lo hi N.length):Mem.zf8 W a (Pl.mkZ K N N.length):=fun i y hy=>by
 rw [Pl.zo8,Option.map_eq_some_iff] at hy;obtain ⟨x,hx,e⟩:=hy;have hl:=(List.getElem?_eq_some_iff.1 hx).1;rw [if_pos hl] at e;subst e;obtain ⟨h1,h2,h3,g,h4,h5⟩:=h.each i x hx;rw [if_pos hl] at h5
 rcases h.row.2 with ⟨e,h0⟩|⟨g0,c,cur,e,hb,hg,rest⟩
 ·rw [h0] at hl;omega
 ·cases e
  have hy2:(Pl.mkZ K N N.length)[i]? =some (Pl.mkN1 (Pl.kZ K N i) x):=by rw [Pl.zo8,hx,Option.map_some,if_pos hl]
  have hcl:=Pl.zs6 _ i _ hy2;refine ⟨⟨g0,0,rfl,(Array.getElem?_eq_some_iff.1 hg).1,?_,?_⟩,?_⟩
  ·rw [Nat.zero_add];exact (Mem.zy8 h.row hcl.1).1
  ·rw [Nat.zero_add];exact (Mem.zy8 h.row hcl.2).1
  ·show Mem.zb2 W x.a _;rw [h4];exact h5.o.items
theorem Mz.id {W:World} {S g0 cap K j:Nat} {N:List Pl.Ns} {lo hi:Nat→Nat} {x:Pl.Ns} (h:Mz W S (some ⟨g0,0,none⟩) cap K N lo hi j) (hx:N[j]? =some x):
  (W.setCell ⟨g0,j*2,none⟩ (.int .i64 (Pl.kZ K N j:Int))).ownsRow S 105 2 (.slice (some ⟨g0,0,none⟩) N.length cap) N.length (Pl.zh2 (Pl.mkZ K N (j+1)))∧
  ∀ (i:Nat) y,N[i]? =some y→∃g,y.a=some ⟨g,0,none⟩∧Mem.OwnB (W.setCell ⟨g0,j*2,none⟩ (.int .i64 (Pl.kZ K N j:Int))) (lo i) (hi i) g (if i<j then Pl.mkTo (Pl.kZ K N i+1) y.Is y.Is.length else y.Is):=by
 have hy:(Pl.mkZ K N j)[j]? =some x:=by rw [Pl.zo8,hx,Option.map_some,if_neg (by omega)]
 refine ⟨?_,fun i y hi=>?_⟩
 ·have h1:=Mem.own_put h.row (j*2) (.int .i64 (Pl.kZ K N j:Int));have h2:=Pl.cellsZ_set (Pl.mkZ K N j) j x (Pl.mkN1 (Pl.kZ K N j) x) hy rfl rfl (Pl.zu6 _ _ _);rw [Pl.mkZ_succ K hx] at h2;rw [←h2];exact h1
 ·obtain ⟨-, -,h3,g,h4,h5⟩:=h.each i y hi;have :=h3 g0 rfl;exact ⟨g,h4,h5.same (by rw [World.size_setCell];exact Nat.le_refl _) (fun b h1 h2 _=>heap_setCell_other _ _ _ _ (by show b≠g0;omega))⟩
theorem Mz.fin {W W2:World} {S g0 g cap K j:Nat} {N:List Pl.Ns} {lo hi:Nat→Nat} {x:Pl.Ns} (h:Mz W S (some ⟨g0,0,none⟩) cap K N lo hi j) (hx:N[j]? =some x) (hg:x.a=some ⟨g,0,none⟩)
  (o:Mem.OwnI W2 (lo j) g (Pl.mkTo (Pl.kZ K N j+1) x.Is x.Is.length)) (b:Mem.Band (lo j) (hi j) (W.setCell ⟨g0,j*2,none⟩ (.int .i64 (Pl.kZ K N j:Int))) W2):Mz W2 S (some ⟨g0,0,none⟩) cap K N lo hi (j+1):=by
 obtain ⟨h1,h2⟩:=h.id hx;have hlj:=(List.getElem?_eq_some_iff.1 hx).1;have hgj:=(h.each j x hx).2.2.1 g0 rfl;have hsz:=b.size;have hs0:(W.setCell ⟨g0,j*2,none⟩ (.int .i64 (Pl.kZ K N j:Int))).heap.size=W.heap.size:=World.size_setCell _ _ _;refine ⟨Mem.zi1 h1 (fun q hq=>b.block q (World.ownsRow.lt h1 q hq).2 (by cases hq;omega)),fun i y hy=>?_,h.rise⟩;obtain ⟨e1,e2,e3, -⟩:=h.each i y hy;obtain ⟨g',k1,k2⟩:=h2 i y hy;refine ⟨e1,by omega,e3,?_⟩;have hli:=(List.getElem?_eq_some_iff.1 hy).1;by_cases e:i=j
 ·subst e;rw [hx] at hy;cases hy
  rw [hg] at k1;cases k1
  rw [if_neg (by omega)] at k2;exact ⟨g,hg,by rw [if_pos (by omega)];exact Mem.OwnB.marks o k2.gH k2.hH⟩
 ·refine ⟨g',k1,?_⟩
  have hd:hi i≤lo j∨hi j≤lo i:=by
   rcases Nat.lt_or_ge i j with h3|h3
   ·exact .inl (h.rise i j h3 hlj)
   ·exact .inr (h.rise j i (by omega) hli)
  have h3:=k2.same hsz (fun q q1 q2 q3=>b.block q q3 (by omega));by_cases e2:i<j
  ·rw [if_pos e2] at h3;rw [if_pos (by omega)];exact h3
  ·rw [if_neg e2] at h3;rw [if_neg (by omega)];exact h3
set_option linter.unusedSimpArgs false in
set_option maxRecDepth 100000 in
set_option maxHeartbeats 2000000 in
theorem zm0 (S g0 cap:Nat) (N:List Pl.Ns) (lo hi:Nat→Nat) (H:Nat) (w:World) (hn:N.length≤12) (hI:∀x∈N,x.Is.length≤12∧∀t∈x.Is,t.t.L.length≤40) (hv:Mz w S (some ⟨g0,0,none⟩) cap 1 N lo hi 0) (hg0:g0<H) (hH:∀i,i<N.length→hi i≤H):
  Calls Tryz.prog 35 #[.slice (some ⟨g0,0,none⟩) N.length cap, .int .i64 1] w fun e w'=>e= .returned (.int .i64 (Pl.kZ 1 N N.length:Int))∧Mz w' S (some ⟨g0,0,none⟩) cap 1 N lo hi N.length∧Mem.Band S H w w':=by
 have hS0:S≤g0:=(World.ownsRow.lt hv.row g0 rfl).1;have HI:=hide hI;have HV:=hide hv;have HH:=hide hH;clear hI hv hH;go_enter Tryz.func35,Tryz.ntmps35
 go_wp2
 go_loopw [1,5] (fun a i wr=>∃j:Nat,j≤N.length∧i= .int .i64 (j:Int)∧a= .int .i64 (Pl.kZ 1 N j:Int)∧Hid (Mz wr S (some ⟨g0,0,none⟩) cap 1 N lo hi j∧Mem.Band S H w wr)) (fun _ i _=>N.length - (intOf i).toNat)
 case atStart=>exact ⟨0,Nat.zero_le _,rfl,rfl,⟨za HV,Mem.Band.refl _ _ _⟩⟩
 case round=>
  obtain ⟨j,hj,rfl,rfl,HA⟩:=hrel;by_cases hlt:j<N.length
  ·obtain ⟨x,hx⟩:∃x,N[j]? =some x:=⟨_,List.getElem?_eq_getElem hlt⟩;obtain ⟨hI1,hI2⟩:=za HI x (List.mem_of_getElem? hx);have hk1:=Pl.kZ_le 1 N (za HI) j (by omega);have hk0:=Pl.kZ_ge 1 N j;have HKS:Hid (Pl.kZ 1 N (j+1)=Pl.kAt (Pl.kZ 1 N j+1) x.Is x.Is.length):=hide (Pl.kZ_succ hx);obtain ⟨e1,e2,e3,g,e4,e5⟩:=(za HA).1.each j x hx;rw [if_neg (by omega)] at e5;have hy:(Pl.mkZ 1 N j)[j]? =some x:=by rw [Pl.zo8,hx,Option.map_some,if_neg (by omega)]
   have hcl:=Pl.zs6 _ j _ hy;obtain ⟨c0,f0⟩:=Mem.zy8 (za HA).1.row hcl.1;obtain ⟨r1,r2⟩:=(za HA).1.id hx;have hy2:(Pl.mkZ 1 N (j+1))[j]? =some (Pl.mkN1 (Pl.kZ 1 N j) x):=by rw [Pl.zo8,hx,Option.map_some,if_pos (by omega)]
   have c1:=(Mem.zy8 r1 (Pl.zs6 _ j _ hy2).2).1;obtain ⟨g',k1,k2⟩:=r2 j x hx;rw [if_neg (by omega)] at k2
   have hk3:∀i,i≤x.Is.length→Pl.kAt (Pl.kZ 1 N j+1) x.Is i≤100000:=fun i hi=>by
    have :=Pl.kAt_le (Pl.kZ 1 N j+1) x.Is hI2 i hi;omega
   have hml:=hide (WMkB.ze0 (lo j) g' x.cap (Pl.kZ 1 N j+1) (hi j) x.Is _ (by omega) (fun t ht=>by have :=hI2 t ht;omega) (by omega) hk3 k2.o k2.gH k2.hH);have HFIN:=hide (fun W2 o b=>(za HA).1.fin (W2:=W2) hx k1 o b);have hg0w:g0<wr.heap.size:=(World.ownsRow.lt (za HA).1.row g0 rfl).2;have hB1:=hide ((za HA).2.trans (Mem.Band.of_set (w:=wr) ⟨g0,j*2,none⟩ (.int .i64 (Pl.kZ 1 N j:Int)) hS0 hg0));have hhj:=za HH j hlt;simp only [Pl.mkN1,Pl.zu6] at c1;obtain ⟨xd,xa,xc,xI⟩:=x;simp only at k1 c1 hml HFIN HKS c0;subst k1;generalize Pl.kZ 1 N j=KJ at hk1 hk0 HKS hml HFIN hB1 c1 ⊢;have eK:((KJ+1:Nat):Int)=(KJ:Int)+1:=by omega
   rw [eK] at hml;have u1:(j:Int)<(N.length:Int):=by omega
   have u3:(0:Int)≤(j:Int):=by omega
   have hkb:KJ≤100000:=by omega
   clear r1 r2 k2 hk3 hx hy hcl hy2 eK HA e3 e4 e5 hI1 hI2 hk1;go_wp2_with fail
   refine (za hml).mono ?_;rintro e w2 ⟨rfl,ho,hb⟩;have HA2:Hid (Mz w2 S (some ⟨g0,0,none⟩) cap 1 N lo hi (j+1)∧Mem.Band S H w w2):=⟨za HFIN _ ho hb,(za hB1).trans ⟨hb.os,hb.tape,hb.output,hb.size,fun q hq hh=>hb.block q hq (by omega)⟩⟩;clear ho hb hml HFIN hB1 c1 c0 f0;go_wp2
   go_roundw
   case rel=>exact ⟨j+1,by omega,by go_num,by rw [za HKS],HA2⟩
   case measure=>simp [intOf];omega
  ·have u1:¬ (j:Int)<(N.length:Int):=by omega
   have hje:j=N.length:=by omega
   subst hje;go_wp2
   go_ret
   exact ⟨rfl,za HA⟩
end WMkY
end
section
open Go.RowKit
namespace Pl
def third (k:Nat):Bool:=decide (k % 3=0)
theorem third_is (q:Nat):(((q:Int)+1+1) % 3==0)=third (q+2):=by
 unfold third;rw [Bool.eq_iff_iff];simp only [beq_iff_eq,decide_eq_true_eq];omega
def mkMn (K j:Nat):Pl.Mn:=⟨mark (K+3*j),((K+3*j+1:Nat):Int),third (K+3*j+2)⟩
def zr0 (K n:Nat):List Pl.Mn:=(List.range n).map (mkMn K)
theorem mkMns_len (K n:Nat):(zr0 K n).length=n:=by simp [zr0]
theorem mkMns_get (K n j:Nat) (h:j<n):(zr0 K n)[j]? =some (mkMn K j):=by
 unfold zr0;rw [List.getElem?_map,List.getElem?_range h];rfl
end Pl
namespace WMkM
def rowAt (cv:Array Value) (K j:Nat):Prop:=cv[j*3]? =some (.string (Pl.mark (K+3*j)))∧cv[j*3+1]? =some (.int .i64 ((K+3*j+1:Nat):Int))∧cv[j*3+2]? =some (.bool (Pl.third (K+3*j+2)))
theorem row_is {w:World} {g K n:Nat} {cv:Array Value} (h:w.heap[g]? =some (.cells cv 51 (0,0))) (hA:∀j,j<n→rowAt cv K j):Mem.zb8 w (some ⟨g,0,none⟩) (Pl.zr0 K n):=fun i x hi=>by
 have hl:=(List.getElem?_eq_some_iff.1 hi).1;rw [Pl.mkMns_len] at hl;rw [Pl.mkMns_get K n i hl] at hi;cases hi
 obtain ⟨h0,h1,h2⟩:=hA i hl;refine ⟨g,0,rfl,(Array.getElem?_eq_some_iff.1 h).1,?_,?_,?_⟩
 ·rw [cell_of_row w _ _ _ _ (0,0) h,Nat.zero_add];exact h0
 ·rw [cell_of_row w _ _ _ _ (0,0) h,Nat.zero_add];exact h1
 ·rw [cell_of_row w _ _ _ _ (0,0) h,Nat.zero_add];exact h2

set_option linter.unusedSimpArgs false in
set_option maxRecDepth 100000 in
set_option maxHeartbeats 1000000 in
theorem ze0 (g n cap K:Nat) (cur:Array Value) (w:World) (hn:n≤1048576) (hK:0<K) (hK2:K≤8500000000000000000) (hrow:w.heap[g]? =some (.cells cur 51 (0,0))) (hsz:n*3≤cur.size):
  Calls Tryz.prog 36 #[.slice (some ⟨g,0,none⟩) n cap, .int .i64 (K:Int)] w fun e w'=>e= .returned (.int .i64 ((K+3*n:Nat):Int))∧
   (∃cur',w'.heap[g]? =some (.cells cur' 51 (0,0))∧cur'.size=cur.size)∧Mem.zb8 w' (some ⟨g,0,none⟩) (Pl.zr0 K n)∧w.grownBy w' (some g):=by
 have HR0:=hide hrow;have HS0:=hide hsz;clear hrow hsz;go_enter Tryz.func36,Tryz.ntmps36
 go_wp2
 go_loopw [1,5] (fun a i wr=>∃ (k q:Nat) (cv:Array Value),k≤n∧q=K+3*k∧i= .int .i64 (k:Int)∧a= .int .i64 (q:Int)∧Hid (wr.heap[g]? =some (.cells cv 51 (0,0)))∧Hid (cv.size=cur.size)∧Hid (w.grownBy wr (some g))∧
   Hid (∀j,j<k→rowAt cv K j)) (fun _ i _=>n - (intOf i).toNat)
 case atStart=>exact ⟨0,K,cur,Nat.zero_le _,rfl,rfl,rfl,HR0,rfl,⟨rfl,rfl,rfl,Nat.le_refl _,fun _ _ _=>rfl⟩,fun j h=>absurd h (by omega)⟩
 case round=>
  obtain ⟨k,q,cv,hk,hq,rfl,rfl,HR,HS,HG,HA⟩:=hrel;by_cases hlt:k<n
  ·have y1:(k:Int)<(n:Int):=by omega
   have y3:(0:Int)≤(k:Int):=by omega
   have HM:=hide (fun W=>zp7.ze0 q W (by omega) (by omega));have HQ:=hide hq;have q1:(q:Int)≤9000000000000000000:=by omega
   clear hq;have hcz:n*3≤cv.size:=by rw [za HS];exact za HS0
   have HCZ:=hide hcz;clear hcz;go_wp2_with fail
   refine (za HM _).mono ?_;rintro e w2 ⟨rfl,b2⟩;have hg:g<wr.heap.size:=(Array.getElem?_eq_some_iff.1 (za HR)).1;have HR2:=hide ((b2.block _ hg).trans (za HR));have hcz:=za HCZ;have s0:∃x,w2.cell? ⟨g,k*3,none⟩=some x:=⟨_,(cell_of_row w2 _ (k*3) _ _ (0,0) (za HR2)).trans (Array.getElem?_eq_getElem (by omega))⟩;have s1:∃x,w2.cell? ⟨g,k*3+1,none⟩=some x:=⟨_,(cell_of_row w2 _ (k*3+1) _ _ (0,0) (za HR2)).trans (Array.getElem?_eq_getElem (by omega))⟩;have s2:∃x,w2.cell? ⟨g,k*3+2,none⟩=some x:=⟨_,(cell_of_row w2 _ (k*3+2) _ _ (0,0) (za HR2)).trans (Array.getElem?_eq_getElem (by omega))⟩;obtain ⟨x0,s0⟩:=s0;obtain ⟨x1,s1⟩:=s1;obtain ⟨x2,s2⟩:=s2;have f0:∀j,w2.frozen? ⟨g,j,none⟩=false:=fun j=>Mem.zb4 (za HR2);have HG2:=hide (zi6.zt4 (za HG) b2);clear b2 HR HG hcz hg HM;go_wp2
   go_roundw
   case rel=>
    refine ⟨k+1,q+3,_,by omega,by have :=za HQ;omega,by go_num,by go_num,hide (heap_setCell_same _ _ (k*3+2) _ _ _ (heap_setCell_same _ _ (k*3+1) _ _ _ (heap_setCell_same _ _ (k*3) _ _ _ (za HR2)))),?_,hide (zi6.za2 (zi6.za2 (zi6.za2 (za HG2)))),?_⟩
    ·exact hide (by simpa using za HS)
    ·intro j hj;have hcz:=za HCZ
     rcases Nat.lt_succ_iff_lt_or_eq.1 hj with h''|rfl
     ·obtain ⟨i0,i1,i2⟩:=HA.out j h'';simp only [rowAt,Array.getElem?_setIfInBounds];refine ⟨?_,?_,?_⟩ <;> (repeat (rw [if_neg (by omega)])) <;> assumption
     ·have hq:=za HQ;simp only [rowAt,Array.getElem?_setIfInBounds,Array.size_setIfInBounds,←hq];refine ⟨by simp;omega,by simp;omega,?_⟩;simp
      exact ⟨by omega,Pl.third_is q⟩
   case measure=>simp [intOf];omega
  ·obtain rfl:k=n:=by omega
   have y1:¬ (k:Int)<(k:Int):=by omega
   have hq2:(q:Int)=((K+3*k:Nat):Int):=by omega
   have HQ:=hide hq2;have HI:=hide (row_is (za HR) (za HA));clear hq hq2;go_wp2
   go_ret
   exact ⟨(by rw [za HQ];first |done|rfl),⟨cv,za HR,za HS⟩,za HI,za HG⟩
end WMkM
end
end Go.Proofs.YtgdjjncmocppeaaGreatDoor
