import Derived.Test.YtbomeifgfalmdaaGreatDoorG32
namespace Go.Proofs.YtbomeifgfalmdaaGreatDoor
open Go.RowKit Go.Shelf Go.Maps
attribute [local go_sem] Oper.semAt_some
namespace Pl
theorem kids_snoc (q:ByteArray) (T:List Nd) (n:Nd):zb2 q (T++[n])=zb2 q T++(if parent n.path=q then [base n.path] else []):=by
 unfold zb2;rw [List.filter_append,List.map_append]
 congr 1
 by_cases h:parent n.path=q
 ·simp [h]
 ·simp [h]
theorem kids_le (q:ByteArray) (T:List Nd):(zb2 q T).length≤T.length:=by
 unfold zb2;rw [List.length_map];exact List.length_filter_le _ _
theorem kids_perm {q t:ByteArray} {T L:List Nd} (h:T.Perm L):t∈zb2 q T↔t∈zb2 q L:=by
 unfold zb2;exact ((h.filter _).map _).mem_iff
end Pl
namespace Rng
theorem Kq.iter {C:World→Nat→Prop} {R:Nat→Prop} {B:Nat} {W0 W W':World} {r:Nat} (hC:Mine B C) (hB:B≤W.heap.size) (k:Kq C R W0 W) (g:W.grownBy W' (some r)) (hr:W0.heap.size≤r) (ho:∃o:Obj,W.heap[r]? =some o∧o.isCells=false):Kq C R W0 W':=by
 refine ⟨Nat.le_trans k.size g.size,fun j o hj hc hn=>?_,fun j hj=>?_⟩
 ·have h1:=k.kept j o hj hc hn;refine (g.block j (Array.getElem?_eq_some_iff.1 h1).1 (fun e=>?_)).trans h1;cases e
  have :=(Array.getElem?_eq_some_iff.1 hj).1;omega
 ·rcases hC W W' (some r) hB g (fun q e=>by cases e;exact ho) j hj with h|h
  ·exact k.mine j h
  ·exact .inr (Nat.le_trans k.size h)
theorem drewB {n:Nat} (w:World):Below n w w.drew:=⟨rfl,rfl,rfl,Nat.le_refl _,fun _ _=>rfl⟩
theorem ranges_kept {P:Program} {k:TypeId} {R:Value→Option (DataW Unit × List MemPlace)} {b r n:Nat} {D:DataW Unit} {left:Lit→Bool} {cnt:Nat} {w w':World} (h:w.ranges P k R b r n D left cnt)
  (h1:∀o:Obj,w.heap[b]? =some o∧o.isCells=false→w'.heap[b]? =some o) (h2:∀o:Obj,w.heap[r]? =some o∧o.isCells=false→w'.heap[r]? =some o):w'.ranges P k R b r n D left cnt:=by
 obtain ⟨es,clock,since,seen,c0,a1,a2,a3,a4,a5,a6⟩:=h;exact ⟨es,clock,since,seen,c0,h1 _ ⟨a1,rfl⟩,a2,a3,a4,h2 _ ⟨a5,rfl⟩,a6⟩
structure Nn (w0 Ws:World) (C:World→Nat→Prop) (B l y pb:Nat) (q:ByteArray) (J:List ByteArray→World→Prop) (ys:List ByteArray) (W:World):Prop where
 keep:Keep w0 W
 size:B≤W.heap.size
 from_:Ws.heap.size≤W.heap.size
 box:Mem.Blk W y #[.func (.yield l) #[] #[]] 92
 mine:¬C W y
 path:Mem.Blk W pb #[.string q] 9
 minp:¬C W pb
 got:J ys W
theorem zy9 {W W':World} {y:Nat} {cs:Array Value} {T:TypeId} {row:Option Nat} (h:Mem.Blk W y cs T) (g:W.grownBy W' row) (hr:∀r,row=some r→∃o:Obj,W.heap[r]? =some o∧o.isCells=false):Mem.Blk W' y cs T:=
 h.grown g (fun e=>by
  obtain ⟨o,ho,hc⟩:=hr y e.symm;have h2:W.heap[y]? =some (.cells cs T (0,0)):=h;rw [h2] at ho;cases ho
  cases hc)
theorem Nn.grown {w0 Ws:World} {C:World→Nat→Prop} {B l y pb:Nat} {q:ByteArray} {J:List ByteArray→World→Prop} {ys:List ByteArray} {W W':World} {row:Option Nat} (h:Nn w0 Ws C B l y pb q J ys W) (hC:Good w0 B C) (hJ:OwnFrom Ws.heap.size J)
  (hw:w0.heap.size≤Ws.heap.size) (g:W.grownBy W' row) (hr:∀r,row=some r→Ws.heap.size≤r∧∃o:Obj,W.heap[r]? =some o∧o.isCells=false):Nn w0 Ws C B l y pb q J ys W':=
 ⟨h.keep.grown g (fun r e=>by have :=(hr r e).1;omega),Nat.le_trans h.size g.size,Nat.le_trans h.from_ g.size,zy9 h.box g (fun r e=>(hr r e).2),
  fun hc=>(hC.step W W' row h.size g (fun r e=>(hr r e).2) y hc).elim h.mine (fun h5=>by have :=h.box.lt;omega),zy9 h.path g (fun r e=>(hr r e).2),
  fun hc=>(hC.step W W' row h.size g (fun r e=>(hr r e).2) pb hc).elim h.minp (fun h5=>by have :=h.path.lt;omega),hJ ys W W' row h.got g (fun r e=>⟨(hr r e).1,(hr r e).2⟩)⟩
theorem Nn.alloc {w0 Ws:World} {C:World→Nat→Prop} {B l y pb:Nat} {q:ByteArray} {J:List ByteArray→World→Prop} {ys:List ByteArray} {W:World} (h:Nn w0 Ws C B l y pb q J ys W) (hC:Good w0 B C) (hJ:OwnFrom Ws.heap.size J)
  (hw:w0.heap.size≤Ws.heap.size) (o:Obj):Nn w0 Ws C B l y pb q J ys (W.alloc o):=h.grown hC hJ hw (World.grownBy_alloc W o none) (fun r e=>by cases e)
theorem Nn.call {w0 Ws:World} {C:World→Nat→Prop} {B l y pb:Nat} {q:ByteArray} {J:List ByteArray→World→Prop} {ys:List ByteArray} {W W':World} (h:Nn w0 Ws C B l y pb q J ys W) (hC:Good w0 B C) (hJ:OwnFrom Ws.heap.size J)
  (hw:w0.heap.size≤Ws.heap.size) (b:Below W.heap.size W W'):Nn w0 Ws C B l y pb q J ys W':=h.grown hC hJ hw (Mem.za4 b none) (fun r e=>by cases e)
theorem Nn.next {w0 Ws:World} {C:World→Nat→Prop} {R:Nat→Prop} {B l y pb:Nat} {q:ByteArray} {J J':List ByteArray→World→Prop} {ys ys':List ByteArray} {W W':World} (h:Nn w0 Ws C B l y pb q J ys W) (hC:Good w0 B C) (hR:∀j,R j→w0.heap.size≤j)
  (k:Kq C R W W') (hj:J' ys' W'):Nn w0 Ws C B l y pb q J' ys' W':=by
 have h2:W.heap[y]? =some (.cells #[.func (.yield l) #[] #[]] 92 (0,0)):=h.box;have h3:W.heap[pb]? =some (.cells #[.string q] 9 (0,0)):=h.path;refine ⟨h.keep.kq k (fun j hc=>(hC.rng W h.size j hc).1) hR,Nat.le_trans h.size k.size,Nat.le_trans h.from_ k.size,?_,fun hc=>?_,?_,fun hc=>?_,hj⟩
 ·exact k.kept y _ h2 (fun _=>h.mine) (fun e=>by cases e)
 ·rcases k.mine y hc with h4|h4
  ·exact h.mine h4
  ·have :=(Array.getElem?_eq_some_iff.1 h2).1;omega
 ·exact k.kept pb _ h3 (fun _=>h.minp) (fun e=>by cases e)
 ·rcases k.mine pb hc with h4|h4
  ·exact h.minp h4
  ·have :=(Array.getElem?_eq_some_iff.1 h3).1;omega
def NamesOk (C:World→Nat→Prop) (R:Nat→Prop) (n:Nat) (L:List Pl.Nd) (K:Pl.Fx) (q:ByteArray) (nb pb:Nat) (w:World):Prop:=
 Seq Fence.wide n Tryz.prog 123 #[.pointer (some ⟨nb,0,none⟩), .pointer (some ⟨pb,0,none⟩)] (fun t:ByteArray=>#[.string t]) C R (fun ys=>∀t,t∈ys↔∃M∈Pl.za8 (.cons L K .nil),t∈Pl.zb2 q M) (fun _=>True) (40*(Pl.za8 (.cons L K .nil)).length) w
theorem RJ {F:Fence} {n:Nat} {P:Program} {md:Region.Mode} {ops:Array Oper} {Q:Exit→Act→World→Prop} {o:Oper} {fuel:Nat} {listed:Array Bool} {a:Act} {w:World} (i:Nat)
  (h:∀K':Act→World→Prop,(∀a w,wpAnyIn F n P md ops Q fuel (listed.setIfInBounds i true) a w→K' a w)→if Region.wanted o (yielded ops a.tmps)=true then Oper.wpIn F n P o a w K' Q else (∀f,o.about P w a.eval=some f→F.fn f)∧K' (a.put o.dst undef) w)
  (ho:ops[i]? =some o:=by exact rfl) (hr:Region.ready md ops listed=[i]:=by kernel_rfl):wpAnyIn F n P md ops Q (fuel+1) listed a w:=
 wpAnyIn_ready hr (by simp) (AllReadyIn.cons ho h AllReadyIn.nil)
theorem AnyVia {F:Fence} {n:Nat} {P:Program} {md:Region.Mode} {ops:Array Oper} {Q:Exit→Act→World→Prop} {f0:Nat} {l0:Array Bool} {T:Array Value} {D:List Deferred} {w0:World} (fs:List (Nat × Value)) (fuel:Nat) (l2:Array Bool) (X:World→Prop)
  (h:(∀W l f t,f=fuel→l=l2→t=fs.foldl (fun t p=>t.setIfInBounds p.1 p.2) T→X W→wpAnyIn F n P md ops Q f l ⟨t,D⟩ W)→wpAnyIn F n P md ops Q f0 l0 ⟨T,D⟩ w0)
  (k:∀W t,t=fs.foldl (fun t p=>t.setIfInBounds p.1 p.2) T→X W→wpAnyIn F n P md ops Q fuel l2 ⟨t,D⟩ W):wpAnyIn F n P md ops Q f0 l0 ⟨T,D⟩ w0:=
 h fun W l f t hf hl ht hX=>by subst hf hl;exact k W t ht hX
set_option linter.unusedSimpArgs false in
set_option maxRecDepth 100000 in
set_option maxHeartbeats 4000000 in
theorem names_ok (w0:World) (C:World→Nat→Prop) (B:Nat) (hC:Good w0 B C) (n:Nat) (R:Nat→Prop) (L:List Pl.Nd) (K:Pl.Fx) (qm:Nat) (a:Option Addr) (cap:Nat) (q:ByteArray) (nb pb:Nat) (w:World) (hB:B≤w.heap.size) (hR:∀j,R j→w0.heap.size≤j)
  (hx:(Pl.Fx.cons L K .nil).okX) (hm:Mem.ownM w0 qm L) (hl:Mem.layX w0 (fun j=>j<w0.heap.size) K (.slice a K.len cap)) (hk:Keep w0 w) (hnb:Mem.Blk w nb #[.map (some qm), .int .i64 (K.len:Int), .slice a K.len cap] 135) (hpb:Mem.Blk w pb #[.string q] 9)
  (hmp:∀W,Below w.heap.size w W→¬C W pb):NamesOk C R n L K q nb pb w:=by
 intro l J Jx W hRl hRW hW hJ hJx hY h0;have kW:Keep w0 W:=hk.trans (Keep.of_below hW);have hBW:B≤W.heap.size:=Nat.le_trans hB hW.size;have nbW:=hnb.call hW;have pbW:=hpb.call hW;have hpC:=hmp W hW;obtain ⟨c0,c1,c2⟩:=jc3 nbW;have hlt:=nbW.lt;have b1:Below W.heap.size W (W.alloc (.cells #[.func (.yield l) #[] #[]] 92)):=bE0
 have t1:Nn w0 W C B l W.heap.size pb q J [] (W.alloc (.cells #[.func (.yield l) #[] #[]] 92)):=by
  have g1:=World.grownBy_alloc W (.cells #[.func (.yield l) #[] #[]] 92) none;exact ⟨kW.grown g1 (fun r e=>by cases e),by simp;omega,by simp,Mem.Blk.new _ _ _,fun hc=>hC.typ _ _ _ _ hBW (Mem.Blk.new W _ _) (by decide) hc,pbW.call b1,fun hc=>(hC.step W _ none hBW g1 (fun r e=>by cases e) _ hc).elim hpC (fun h5=>by have :=pbW.lt;omega),hJ [] W _ none h0 g1 (fun r e=>by cases e)⟩
 have z1:(W.alloc (.cells #[.func (.yield l) #[] #[]] 92)).heap.size=W.heap.size+1:=by simp
 have HY:=hide hY;have T1:=hide t1;clear hY h0 nbW pbW hpC hnb hpb hmp t1 b1;refine callsIn_of_wp_marks Tryz.func123 rfl trivial ?_ rfl;simp only [Tryz.ntmps123,List.size_toArray,List.length_cons,List.length_nil,Nat.reduceAdd,Nat.reduceSub,Array.replicate_succ,Array.replicate_zero,List.push_toArray,List.append_toArray,List.nil_append,List.cons_append]
 gi_wp2_with fail
 generalize W.alloc (.cells #[.func (.yield l) #[] #[]] 92)=W1 at T1 z1 ⊢;refine ⟨trivial,fun h=>(by cases h),?_⟩;refine (callsIn_wide.2 (each_any _ _ _ _)).mono ?_;rintro e w3 ⟨rfl,hw3⟩;have i3:Nn w0 W C B l W.heap.size pb q J [] w3:=by rw [hw3];exact (za T1).alloc hC hJ kW.size _
 have z3:w3.heap.size=W.heap.size+2:=by rw [hw3];simp;omega
 have x3:Mem.Blk w3 W1.heap.size #[.map (some qm), .int .i64 (K.len:Int), .slice a K.len cap] 135:=by rw [hw3];exact Mem.Blk.new _ _ _
 rw [z1] at x3;have SQ:=hide (each_ok w0 C B hC K.sz (n - 1) (fun j=>R j∨j=w3.heap.size+1) L K qm (K.len:Int) a cap (W.heap.size+1) w3 (Nat.le_refl _) i3.size (fun j h=>h.elim (fun h=>hR j h) (fun h=>by have :=i3.keep.size;omega)) hx hm hl i3.keep x3);have hR3:∀j,R j→j<w3.heap.size:=fun j h=>by have :=hRW j h;have :=i3.from_;omega
 have I3:=hide i3;rw [z1];clear T1 hw3 i3 x3 c0 c1 c2 z1
 gi_wp2_with fail
 refine range rfl (fun h=>(by cases h)) (gf:=147) (lb:=#[.pointer (some ⟨W.heap.size+1,0,none⟩)]) rfl trivial (enters_of Tryz.func147 (by kernel_rfl) rfl) (C:=C) (R:=R) (za SQ) (Below.refl _ _) (fun _=>rfl) (hC.step.up (za I3).size) hR3
  (fun xs W''=>∃ys,Nn w0 W C B l W.heap.size pb q J ys W''∧(∀t,t∈ys↔∃M∈xs.map ya4,t∈Pl.zb2 q M)∧ys.length≤40*xs.length)
  (fun c xs W''=>c= .ret∧∃ys,Nn w0 W C B l W.heap.size pb q Jx ys W'')
  (fun xs A A' row h g hr=>by
   obtain ⟨ys,h1,h2,h3⟩:=h
   exact ⟨ys,h1.grown hC hJ kW.size g (fun r e=>⟨by have :=(hr r e).1;have :=(za I3).from_;omega,(hr r e).2⟩),h2,h3⟩)
  (fun c xs A A' row h g hr=>by
   obtain ⟨h0,ys,h1⟩:=h
   exact ⟨h0,ys,h1.grown hC hJx kW.size g (fun r e=>⟨by have :=(hr r e).1;have :=(za I3).from_;omega,(hr r e).2⟩)⟩)
  ⟨[],za I3,by simp,by simp⟩
  (fun x a'' W''=>∃Bx,Mem.Blk W'' Bx #[.map (some x.1.1), .int .i64 x.1.2.1] 132∧a''={ tmps:=#[.func (.yield l) #[] #[], .pointer (some ⟨nb,0,none⟩), .pointer (some ⟨pb,0,none⟩), .pointer (some ⟨W.heap.size,0,none⟩), .pointer (some ⟨Bx,0,none⟩),undef, .agg #[.map (some qm), .int .i64 (K.len:Int), .slice a K.len cap], .func (.func 147) #[] #[.pointer (some ⟨W.heap.size+1,0,none⟩)], .agg #[.map (some x.1.1), .int .i64 x.1.2.1],undef,undef,undef,undef,undef,undef,undef,undef,undef,undef,undef,undef,undef,undef,undef,undef,undef,undef],defers:=[] })
  (fun x a'' _ A A' row h g hr=>by
   obtain ⟨Bx,h1,h2⟩:=h
   exact ⟨Bx,zy9 h1 g (fun r e=>(hr r e).2),h2⟩) ?assign ?body ?done ?stop
 case assign=>
  intro l' xs x W'' Kz hI hz hK;obtain ⟨ys,h1,h2,h3⟩:=hI
  gi_wp2
  exact hK _ _ (Kq.alloc hC.step h1.size _) ⟨ys,h1.alloc hC hJ kW.size _,h2,h3⟩ ⟨W''.heap.size,Mem.Blk.new _ _ _,rfl⟩
 case body=>
  rintro l' xs ⟨⟨xq,xm,xL⟩,hxo,hxt⟩ a'' W'' ⟨ys,hI,hmem,hyl⟩ ⟨Bx,hx,rfl⟩ hlen hz;simp only at hxo hxt hx ⊢;have e0:=hx.cell 0;simp only [kA0,kA1] at e0;have HMB:=hide (hI.keep.own hxo);have hap:=Pl.yk4 hxt;have HG0:=hide (MapN.got_start (MapN.yi2 hap));have HENT:=hide (MapN.yi2 hap).ent;have HAP:=hide hap;have hnod:=Pl.yd2 hxt;have HND:=hide hnod;have hl40:xL.length≤40:=((Pl.zr1 _).1 hxt).1;have hms:=MapN.size_mapOf hap;have HI:=hide hI;have HMEM:=hide hmem;have hxq:xq<w0.heap.size:=hxo.lt;clear hI hx hmem hap hnod
  gi_wp2_with (first
   |(gi_at_range;refine wpListIn_range_own _ rfl _ 130 rfl 9 55 MapN.law Tryz.underlying130 _ xq 40 _ rfl (za HMB) ?_;intro w4 hrg0 hg0 hs0)
   |gi_in)
  go_frame
  have NN0:=hide ((za HI).grown hC hJ kW.size hg0 (fun r e=>by cases e));have KQ0:=hide (Kq.grown (R:=R) hC.step (za HI).size hg0 (fun r e=>by cases e));have hW2:W.heap.size≤W''.heap.size:=(za HI).from_;have HRB:Hid (¬R xq):=hide (fun h=>by have :=hR xq h;omega);have HRI:Hid (¬R W''.heap.size):=hide (fun h=>by have :=hRW _ h;omega);clear hg0 hs0 HMB e0
  gi_loopw [5] (fun _ wr=>∃ (left:Lit→Bool) (cnt:Nat) (T:List Pl.Nd),wr.ranges Tryz.prog 9 MapN.elem xq W''.heap.size 40 (MapN.mapOf xL) left cnt∧T.length+cnt≤xL.length∧Hid (MapN.Got xL T left)∧Hid (Nn w0 W C B l W.heap.size pb q J (ys++Pl.zb2 q T) wr)∧Hid (Kq C R W'' wr))
   (fun _ wr=>wr.rangeLeft xq W''.heap.size)
  case atStart=>exact ⟨_,_,[],hrg0,by rw [hms];simp,HG0,hide (by rw [show Pl.zb2 q []=[] from rfl,List.append_nil];exact za NN0),KQ0⟩
  case round=>
   obtain ⟨left,cnt,T,hrg,hcs,HGT,NN,KQ⟩:=hrel;clear hrg0 NN0 KQ0 HG0 HI
   gi_wp2_with (first
    |(gi_at_next;refine wpListIn_next_ranges _ rfl _ rfl 9 MapN.law MapN.elem (Value.string) (Pl.Nd.val) (fun key kl hk=>Maps.keyOf_string_inv Tryz.underlying9 hk) (fun v y hv=>by obtain ⟨d,ps⟩:=y;obtain ⟨n,hn,_⟩:=MapN.elem_inv hv;exact ⟨n,hn⟩) xq W''.heap.size 40 _ _ _ rfl hrg ?_ ?_)
    |gi_in)
   ·intro hc0 hl0;have hp:=hide (MapN.got_end (za HAP) (za HGT) hl0);clear hrg hc0 hl0 HGT HENT
    gi_wp2
    refine ⟨za KQ,_,za NN,fun t=>?_,?_⟩
    ·rw [List.mem_append,za HMEM,Pl.kids_perm (za hp),List.map_append]
     constructor
     ·rintro (⟨M,hM,ht⟩|ht)
      ·exact ⟨M,List.mem_append_left _ hM,ht⟩
      ·exact ⟨xL,List.mem_append_right _ (List.mem_singleton.2 rfl),ht⟩
     ·rintro ⟨M,hM,ht⟩
      rcases List.mem_append.1 hM with hM|hM
      ·exact .inl ⟨M,hM,ht⟩
      ·obtain rfl:=List.mem_singleton.1 hM;exact .inr ht
    ·have h1:=Pl.kids_le q T;have h2:=(za hp).length_eq;rw [List.length_append,List.length_append,List.length_singleton];omega
   ·intro xk c kl yd yp w5 cnt1 hkey hlk hRv hat hrg1 hlt hg1 hs1 hen;have ek:kl=MapN.key xk:=MapN.keyOf_inv hkey;have ey:yd=MapN.dat c:=by rw [MapN.zt2] at hRv;cases hRv;rfl
    subst ek ey;obtain ⟨hcC,rfl⟩:=za HENT xk c hat;have HG2:=hide (MapN.got_step (za HAP) (za HGT) hcC hlk);obtain ⟨hcp,hcz⟩:=za HND c hcC;have hc2:=Pl.zg0 hcp
    have HPP:Hid (∀W,Calls Tryz.prog 125 #[.string c.path] W fun e w'=>e= .returned (.string (Pl.parent c.path))∧Below W.heap.size W w'):=hide (fun W=>by
     have h:=zh0.zr7 c.path W (by omega);rw [Pl.zc1 hcp,←Pl.zu0] at h
     exact h)
    have HPB:Hid (∀W,Calls Tryz.prog 126 #[.string c.path] W fun e w'=>e= .returned (.string (Pl.base c.path))∧Below W.heap.size W w'):=hide (fun W=>by
     have h:=zh0.base_any c.path W (by omega);rw [Pl.zc1 hcp,←Pl.base_glue] at h
     exact h)
    have hit:∃o:Obj,wr.heap[W''.heap.size]? =some o∧o.isCells=false:=by
     obtain ⟨es,clock,since,seen,k0, -, -, -, -,h, -⟩:=hrg;exact ⟨_,h,rfl⟩
    have HLE:=hide (hrg.left_eq)
    have HLN:Hid ((ys++Pl.zb2 q T).length<40*(Pl.za8 (.cons L K .nil)).length):=hide (by
     have h1:=Pl.kids_le q T;rw [List.length_append]
     omega)
    replace KQ:=hide ((za KQ).iter hC.step (za NN).size hg1 (Nat.le_refl _) hit);replace NN:=hide ((za NN).grown hC hJ kW.size hg1 (fun r e=>by cases e;exact ⟨hW2,hit⟩));have RG:=hide hrg1;clear hat hRv hkey hlk hcC hcp hcz hc2 hit hrg hrg1 hg1 hs1 HGT HENT HND;by_cases hpar:Pl.parent c.path=q
    ·have t9:=Pl.zr0 hpar
     gi_wp2_with fail
     replace NN:=hide ((za NN).call hC hJ kW.size (Rng.drewB w5));replace KQ:=hide ((za KQ).trans (Kq.below hC.step (by have :=(za NN).size;exact this) (Rng.drewB w5)));replace RG:=hide ((za RG).kept (Mem.za4 (Rng.drewB w5) none) (by simp) (by simp));refine wpIn_region_any (by kernel_rfl) ?_
     change wpAnyIn _ _ _ _ _ _ _ _ _ (World.drew _)
     generalize World.drew w5=w6 at NN KQ RG ⊢;have p0:=(za NN).path.cell 0;have y0:=(za NN).box.cell 0;simp only [kA0,kA1] at p0 y0;refine AnyVia [(16, .string c.path),(17, .string q),(18, .string q),(19, .bool true),(20, .bool true)] 6 #[true,true,true,true,true,false,false,false,false,false,false] (fun W0'=>Nn w0 W C B l W.heap.size pb q J (ys++Pl.zb2 q T) W0'∧Kq C R W'' W0'∧W0'.ranges Tryz.prog 9 MapN.elem xq W''.heap.size 40 (MapN.mapOf xL) (fun z=>left z&&!z.sameKey (MapN.key c.path)) cnt1) (fun key=>?_) ?_
     ·refine wpAnyIn_ready (rs:=[0,2]) (by kernel_rfl) (by simp) ?_;refine AllReadyIn.cons rfl (fun K hK=>?_) (AllReadyIn.cons rfl (fun K hK=>?_) (AllReadyIn.nil))
      ·go_simp
       refine hK _ _ ?_;clear hK K
       try simp only [Act.put,kBs]
       refine wpAnyIn_ready (rs:=[1,2]) (by kernel_rfl) (by simp) ?_;refine AllReadyIn.cons rfl (fun K hK=>?_) (AllReadyIn.cons rfl (fun K hK=>?_) (AllReadyIn.nil))
       ·go_simp
        refine ⟨trivial,fun h=>(by cases h),?_⟩;refine (CallsIn.inRound l' (callsIn_wide.2 (za HPP _))).mono ?_;rintro e wX ⟨rfl,bX⟩;replace KQ:=hide ((za KQ).trans (Kq.below hC.step (za NN).size bX));replace NN:=hide ((za NN).call hC hJ kW.size bX);replace RG:=hide ((za RG).kept (Mem.za4 bX none) (by simp) (by simp));clear bX p0 y0;have p0:=(za NN).path.cell 0;have y0:=(za NN).box.cell 0;simp only [kA0,kA1] at p0 y0;refine hK _ _ ?_;clear hK K
        try simp only [Act.put,kBs]
        refine RJ 2 fun K hK=>?_;go_simp
        refine hK _ _ ?_;clear hK K
        try simp only [Act.put,kBs]
        refine RJ 3 fun K hK=>?_;go_simp
        refine hK _ _ ?_;clear hK K
        try simp only [Act.put,kBs]
        refine RJ 4 fun K hK=>?_;go_simp
        refine hK _ _ ?_;clear hK K
        try simp only [Act.put,kBs]
        exact key _ _ _ _ rfl (by kernel_rfl) (by simp only [List.foldl_cons,List.foldl_nil,kB3,kB4,kB5]) ⟨za NN,za KQ,za RG⟩
       ·go_simp
        refine hK _ _ ?_;clear hK K
        try simp only [Act.put,kBs]
        refine RJ 1 fun K hK=>?_;go_simp
        refine ⟨trivial,fun h=>(by cases h),?_⟩;refine (CallsIn.inRound l' (callsIn_wide.2 (za HPP _))).mono ?_;rintro e wX ⟨rfl,bX⟩;replace KQ:=hide ((za KQ).trans (Kq.below hC.step (za NN).size bX));replace NN:=hide ((za NN).call hC hJ kW.size bX);replace RG:=hide ((za RG).kept (Mem.za4 bX none) (by simp) (by simp));clear bX p0 y0;have p0:=(za NN).path.cell 0;have y0:=(za NN).box.cell 0;simp only [kA0,kA1] at p0 y0;refine hK _ _ ?_;clear hK K
        try simp only [Act.put,kBs]
        refine RJ 3 fun K hK=>?_;go_simp
        refine hK _ _ ?_;clear hK K
        try simp only [Act.put,kBs]
        refine RJ 4 fun K hK=>?_;go_simp
        refine hK _ _ ?_;clear hK K
        try simp only [Act.put,kBs]
        exact key _ _ _ _ rfl (by kernel_rfl) (by simp only [List.foldl_cons,List.foldl_nil,kB3,kB4,kB5]) ⟨za NN,za KQ,za RG⟩
      ·go_simp
       refine hK _ _ ?_;clear hK K
       try simp only [Act.put,kBs]
       refine RJ 0 fun K hK=>?_;go_simp
       refine hK _ _ ?_;clear hK K
       try simp only [Act.put,kBs]
       refine RJ 1 fun K hK=>?_;go_simp
       refine ⟨trivial,fun h=>(by cases h),?_⟩;refine (CallsIn.inRound l' (callsIn_wide.2 (za HPP _))).mono ?_;rintro e wX ⟨rfl,bX⟩;replace KQ:=hide ((za KQ).trans (Kq.below hC.step (za NN).size bX));replace NN:=hide ((za NN).call hC hJ kW.size bX);replace RG:=hide ((za RG).kept (Mem.za4 bX none) (by simp) (by simp));clear bX p0 y0;have p0:=(za NN).path.cell 0;have y0:=(za NN).box.cell 0;simp only [kA0,kA1] at p0 y0;refine hK _ _ ?_;clear hK K
       try simp only [Act.put,kBs]
       refine RJ 3 fun K hK=>?_;go_simp
       refine hK _ _ ?_;clear hK K
       try simp only [Act.put,kBs]
       refine RJ 4 fun K hK=>?_;go_simp
       refine hK _ _ ?_;clear hK K
       try simp only [Act.put,kBs]
       exact key _ _ _ _ rfl (by kernel_rfl) (by simp only [List.foldl_cons,List.foldl_nil,kB3,kB4,kB5]) ⟨za NN,za KQ,za RG⟩
     rintro W3 t ht ⟨nn,kq,rg⟩;simp only [List.foldl_cons,List.foldl_nil,kB3,kB4,kB5] at ht;subst ht;clear NN KQ RG p0 y0;have NN:=hide nn;have KQ:=hide kq;have RG:=hide rg;clear nn kq rg;have p0:=(za NN).path.cell 0;have y0:=(za NN).box.cell 0;simp only [kA0,kA1] at p0 y0;refine AnyVia [(21, .func (.yield l) #[] #[]),(22, .string c.path),(23, .string (Pl.base c.path))] 3 #[true,true,true,true,true,true,true,true,false,false,false] (fun W0'=>Nn w0 W C B l W.heap.size pb q J (ys++Pl.zb2 q T) W0'∧Kq C R W'' W0'∧W0'.ranges Tryz.prog 9 MapN.elem xq W''.heap.size 40 (MapN.mapOf xL) (fun z=>left z&&!z.sameKey (MapN.key c.path)) cnt1) (fun key=>?_) ?_
     ·refine wpAnyIn_ready (rs:=[5,6]) (by kernel_rfl) (by simp) ?_;refine AllReadyIn.cons rfl (fun K hK=>?_) (AllReadyIn.cons rfl (fun K hK=>?_) (AllReadyIn.nil))
      ·go_simp
       refine hK _ _ ?_;clear hK K
       try simp only [Act.put,kBs]
       refine RJ 6 fun K hK=>?_;go_simp
       refine hK _ _ ?_;clear hK K
       try simp only [Act.put,kBs]
       refine RJ 7 fun K hK=>?_;go_simp
       refine ⟨trivial,fun h=>(by cases h),?_⟩;refine (CallsIn.inRound l' (callsIn_wide.2 (za HPB _))).mono ?_;rintro e wX ⟨rfl,bX⟩;replace KQ:=hide ((za KQ).trans (Kq.below hC.step (za NN).size bX));replace NN:=hide ((za NN).call hC hJ kW.size bX);replace RG:=hide ((za RG).kept (Mem.za4 bX none) (by simp) (by simp));clear bX p0 y0;have p0:=(za NN).path.cell 0;have y0:=(za NN).box.cell 0;simp only [kA0,kA1] at p0 y0;refine hK _ _ ?_;clear hK K
       try simp only [Act.put,kBs]
       exact key _ _ _ _ rfl (by kernel_rfl) (by simp only [List.foldl_cons,List.foldl_nil,kB3,kB4,kB5]) ⟨za NN,za KQ,za RG⟩
      ·go_simp
       refine hK _ _ ?_;clear hK K
       try simp only [Act.put,kBs]
       refine wpAnyIn_ready (rs:=[5,7]) (by kernel_rfl) (by simp) ?_;refine AllReadyIn.cons rfl (fun K hK=>?_) (AllReadyIn.cons rfl (fun K hK=>?_) (AllReadyIn.nil))
       ·go_simp
        refine hK _ _ ?_;clear hK K
        try simp only [Act.put,kBs]
        refine RJ 7 fun K hK=>?_;go_simp
        refine ⟨trivial,fun h=>(by cases h),?_⟩;refine (CallsIn.inRound l' (callsIn_wide.2 (za HPB _))).mono ?_;rintro e wX ⟨rfl,bX⟩;replace KQ:=hide ((za KQ).trans (Kq.below hC.step (za NN).size bX));replace NN:=hide ((za NN).call hC hJ kW.size bX);replace RG:=hide ((za RG).kept (Mem.za4 bX none) (by simp) (by simp));clear bX p0 y0;have p0:=(za NN).path.cell 0;have y0:=(za NN).box.cell 0;simp only [kA0,kA1] at p0 y0;refine hK _ _ ?_;clear hK K
        try simp only [Act.put,kBs]
        exact key _ _ _ _ rfl (by kernel_rfl) (by simp only [List.foldl_cons,List.foldl_nil,kB3,kB4,kB5]) ⟨za NN,za KQ,za RG⟩
       ·go_simp
        refine ⟨trivial,fun h=>(by cases h),?_⟩;refine (CallsIn.inRound l' (callsIn_wide.2 (za HPB _))).mono ?_;rintro e wX ⟨rfl,bX⟩;replace KQ:=hide ((za KQ).trans (Kq.below hC.step (za NN).size bX));replace NN:=hide ((za NN).call hC hJ kW.size bX);replace RG:=hide ((za RG).kept (Mem.za4 bX none) (by simp) (by simp));clear bX p0 y0;have p0:=(za NN).path.cell 0;have y0:=(za NN).box.cell 0;simp only [kA0,kA1] at p0 y0;refine hK _ _ ?_;clear hK K
        try simp only [Act.put,kBs]
        refine RJ 5 fun K hK=>?_;go_simp
        refine hK _ _ ?_;clear hK K
        try simp only [Act.put,kBs]
        exact key _ _ _ _ rfl (by kernel_rfl) (by simp only [List.foldl_cons,List.foldl_nil,kB3,kB4,kB5]) ⟨za NN,za KQ,za RG⟩
     rintro W3 t ht ⟨nn,kq,rg⟩;simp only [List.foldl_cons,List.foldl_nil,kB3,kB4,kB5] at ht;subst ht;clear NN KQ RG p0 y0;have NN:=hide nn;have KQ:=hide kq;have RG:=hide rg;clear nn kq rg;have p0:=(za NN).path.cell 0;have y0:=(za NN).box.cell 0;simp only [kA0,kA1] at p0 y0;refine RJ 8 fun K hK=>?_;obtain ⟨fn,tmps,assign,body,hy,hR'⟩:=yield_any (F:=Fence.wide) rfl (n - 1 - 1 - 1) (za HY (ys++Pl.zb2 q T) (Pl.base c.path) _ (za NN).got (za HLN));go_simp
     refine ⟨fun h=>(by cases h),?_⟩;refine hR'.mono ?_;clear hR' hy;rintro e W3 (⟨rfl,hJ3,hk3⟩|⟨rfl,hJx3,hk3⟩)
     ·replace RG:=hide (ranges_kept (za RG) (fun o ho=>hk3.kept _ _ ho.1 (fun e=>by rw [ho.2] at e;cases e) (fun _ h=>za HRB h)) (fun o ho=>hk3.kept _ _ ho.1 (fun e=>by rw [ho.2] at e;cases e) (fun _ h=>za HRI h)));replace KQ:=hide ((za KQ).trans hk3);replace NN:=hide ((za NN).next (J':=J) (ys':=ys++Pl.zb2 q (T++[c])) hC hR hk3 (by rw [Pl.kids_snoc,if_pos hpar,←List.append_assoc];exact hJ3));clear hk3 hJ3 p0 y0;refine hK _ _ ?_;clear hK K
      try simp only [Act.put,kBs]
      refine RJ 9 fun K hK=>?_;go_simp
      refine hK _ _ ?_;clear hK K
      try simp only [Act.put,kBs]
      refine RJ 10 fun K hK=>?_;go_simp
      refine hK _ _ ?_;clear hK K
      try simp only [Act.put,kBs]
      refine wpAnyIn_done (by kernel_rfl) ?_ _
      gi_wp2
      go_roundw
      case rel=>exact ⟨_,cnt1,T++[c],za RG,by simp;omega,HG2,NN,KQ⟩
      case measure=>rw [(za RG).left_eq,za HLE];exact hlt
     ·replace KQ:=hide ((za KQ).trans hk3);replace NN:=hide ((za NN).next (J':=Jx) (ys':=(ys++Pl.zb2 q T)++[Pl.base c.path]) hC hR hk3 hJx3);clear hk3 hJx3 p0 y0 RG;refine hK _ _ ?_;clear hK K
      try simp only [Act.put,kBs]
      refine RJ 9 fun K hK=>?_;go_simp
      refine hK _ _ ?_;clear hK K
      try simp only [Act.put,kBs]
      refine RJ 10 fun K hK=>?_;go_simp
      refine hK _ _ ?_;clear hK K
      try simp only [Act.put,kBs]
      refine wpAnyIn_done (by kernel_rfl) ?_ _
      gi_wp2
      exact ⟨za KQ,rfl,_,za NN⟩
    ·have t9:=Pl.zj8 hpar
     gi_wp2_with fail
     replace NN:=hide ((za NN).call hC hJ kW.size (Rng.drewB w5));replace KQ:=hide ((za KQ).trans (Kq.below hC.step (by have :=(za NN).size;exact this) (Rng.drewB w5)));replace RG:=hide ((za RG).kept (Mem.za4 (Rng.drewB w5) none) (by simp) (by simp));refine wpIn_region_any (by kernel_rfl) ?_
     change wpAnyIn _ _ _ _ _ _ _ _ _ (World.drew _)
     generalize World.drew w5=w6 at NN KQ RG ⊢;have p0:=(za NN).path.cell 0;have y0:=(za NN).box.cell 0;simp only [kA0,kA1] at p0 y0;refine AnyVia [(16, .string c.path),(17, .string (Pl.parent c.path)),(18, .string q),(19, .bool false),(20, .bool false)] 6 #[true,true,true,true,true,false,false,false,false,false,false] (fun W0'=>Nn w0 W C B l W.heap.size pb q J (ys++Pl.zb2 q T) W0'∧Kq C R W'' W0'∧W0'.ranges Tryz.prog 9 MapN.elem xq W''.heap.size 40 (MapN.mapOf xL) (fun z=>left z&&!z.sameKey (MapN.key c.path)) cnt1) (fun key=>?_) ?_
     ·refine wpAnyIn_ready (rs:=[0,2]) (by kernel_rfl) (by simp) ?_;refine AllReadyIn.cons rfl (fun K hK=>?_) (AllReadyIn.cons rfl (fun K hK=>?_) (AllReadyIn.nil))
      ·go_simp
       refine hK _ _ ?_;clear hK K
       try simp only [Act.put,kBs]
       refine wpAnyIn_ready (rs:=[1,2]) (by kernel_rfl) (by simp) ?_;refine AllReadyIn.cons rfl (fun K hK=>?_) (AllReadyIn.cons rfl (fun K hK=>?_) (AllReadyIn.nil))
       ·go_simp
        refine ⟨trivial,fun h=>(by cases h),?_⟩;refine (CallsIn.inRound l' (callsIn_wide.2 (za HPP _))).mono ?_;rintro e wX ⟨rfl,bX⟩;replace KQ:=hide ((za KQ).trans (Kq.below hC.step (za NN).size bX));replace NN:=hide ((za NN).call hC hJ kW.size bX);replace RG:=hide ((za RG).kept (Mem.za4 bX none) (by simp) (by simp));clear bX p0 y0;have p0:=(za NN).path.cell 0;have y0:=(za NN).box.cell 0;simp only [kA0,kA1] at p0 y0;refine hK _ _ ?_;clear hK K
        try simp only [Act.put,kBs]
        refine RJ 2 fun K hK=>?_;go_simp
        refine hK _ _ ?_;clear hK K
        try simp only [Act.put,kBs]
        refine RJ 3 fun K hK=>?_;go_simp
        refine hK _ _ ?_;clear hK K
        try simp only [Act.put,kBs]
        refine RJ 4 fun K hK=>?_;go_simp
        refine hK _ _ ?_;clear hK K
        try simp only [Act.put,kBs]
        exact key _ _ _ _ rfl (by kernel_rfl) (by simp only [List.foldl_cons,List.foldl_nil,kB3,kB4,kB5]) ⟨za NN,za KQ,za RG⟩
       ·go_simp
        refine hK _ _ ?_;clear hK K
        try simp only [Act.put,kBs]
        refine RJ 1 fun K hK=>?_;go_simp
        refine ⟨trivial,fun h=>(by cases h),?_⟩;refine (CallsIn.inRound l' (callsIn_wide.2 (za HPP _))).mono ?_;rintro e wX ⟨rfl,bX⟩;replace KQ:=hide ((za KQ).trans (Kq.below hC.step (za NN).size bX));replace NN:=hide ((za NN).call hC hJ kW.size bX);replace RG:=hide ((za RG).kept (Mem.za4 bX none) (by simp) (by simp));clear bX p0 y0;have p0:=(za NN).path.cell 0;have y0:=(za NN).box.cell 0;simp only [kA0,kA1] at p0 y0;refine hK _ _ ?_;clear hK K
        try simp only [Act.put,kBs]
        refine RJ 3 fun K hK=>?_;go_simp
        refine hK _ _ ?_;clear hK K
        try simp only [Act.put,kBs]
        refine RJ 4 fun K hK=>?_;go_simp
        refine hK _ _ ?_;clear hK K
        try simp only [Act.put,kBs]
        exact key _ _ _ _ rfl (by kernel_rfl) (by simp only [List.foldl_cons,List.foldl_nil,kB3,kB4,kB5]) ⟨za NN,za KQ,za RG⟩
      ·go_simp
       refine hK _ _ ?_;clear hK K
       try simp only [Act.put,kBs]
       refine RJ 0 fun K hK=>?_;go_simp
       refine hK _ _ ?_;clear hK K
       try simp only [Act.put,kBs]
       refine RJ 1 fun K hK=>?_;go_simp
       refine ⟨trivial,fun h=>(by cases h),?_⟩;refine (CallsIn.inRound l' (callsIn_wide.2 (za HPP _))).mono ?_;rintro e wX ⟨rfl,bX⟩;replace KQ:=hide ((za KQ).trans (Kq.below hC.step (za NN).size bX));replace NN:=hide ((za NN).call hC hJ kW.size bX);replace RG:=hide ((za RG).kept (Mem.za4 bX none) (by simp) (by simp));clear bX p0 y0;have p0:=(za NN).path.cell 0;have y0:=(za NN).box.cell 0;simp only [kA0,kA1] at p0 y0;refine hK _ _ ?_;clear hK K
       try simp only [Act.put,kBs]
       refine RJ 3 fun K hK=>?_;go_simp
       refine hK _ _ ?_;clear hK K
       try simp only [Act.put,kBs]
       refine RJ 4 fun K hK=>?_;go_simp
       refine hK _ _ ?_;clear hK K
       try simp only [Act.put,kBs]
       exact key _ _ _ _ rfl (by kernel_rfl) (by simp only [List.foldl_cons,List.foldl_nil,kB3,kB4,kB5]) ⟨za NN,za KQ,za RG⟩
     rintro W3 t ht ⟨nn,kq,rg⟩;simp only [List.foldl_cons,List.foldl_nil,kB3,kB4,kB5] at ht;subst ht;clear NN KQ RG p0 y0;have NN:=hide nn;have KQ:=hide kq;have RG:=hide rg;clear nn kq rg;have p0:=(za NN).path.cell 0;have y0:=(za NN).box.cell 0;simp only [kA0,kA1] at p0 y0;refine AnyVia [(21,undef),(22,undef),(23,undef)] 3 #[true,true,true,true,true,true,true,true,false,false,false] (fun W0'=>Nn w0 W C B l W.heap.size pb q J (ys++Pl.zb2 q T) W0'∧Kq C R W'' W0'∧W0'.ranges Tryz.prog 9 MapN.elem xq W''.heap.size 40 (MapN.mapOf xL) (fun z=>left z&&!z.sameKey (MapN.key c.path)) cnt1) (fun key=>?_) ?_
     ·refine wpAnyIn_ready (rs:=[5,6]) (by kernel_rfl) (by simp) ?_;refine AllReadyIn.cons rfl (fun K hK=>?_) (AllReadyIn.cons rfl (fun K hK=>?_) (AllReadyIn.nil))
      ·go_simp
       refine hK _ _ ?_;clear hK K
       try simp only [Act.put,kBs]
       refine RJ 6 fun K hK=>?_;go_simp
       refine hK _ _ ?_;clear hK K
       try simp only [Act.put,kBs]
       refine RJ 7 fun K hK=>?_;go_simp
       refine ⟨trivial,?_⟩;refine hK _ _ ?_;clear hK K
       try simp only [Act.put,kBs]
       exact key _ _ _ _ rfl (by kernel_rfl) (by simp only [List.foldl_cons,List.foldl_nil,kB3,kB4,kB5]) ⟨za NN,za KQ,za RG⟩
      ·go_simp
       refine hK _ _ ?_;clear hK K
       try simp only [Act.put,kBs]
       refine wpAnyIn_ready (rs:=[5,7]) (by kernel_rfl) (by simp) ?_;refine AllReadyIn.cons rfl (fun K hK=>?_) (AllReadyIn.cons rfl (fun K hK=>?_) (AllReadyIn.nil))
       ·go_simp
        refine hK _ _ ?_;clear hK K
        try simp only [Act.put,kBs]
        refine RJ 7 fun K hK=>?_;go_simp
        refine ⟨trivial,?_⟩;refine hK _ _ ?_;clear hK K
        try simp only [Act.put,kBs]
        exact key _ _ _ _ rfl (by kernel_rfl) (by simp only [List.foldl_cons,List.foldl_nil,kB3,kB4,kB5]) ⟨za NN,za KQ,za RG⟩
       ·go_simp
        refine ⟨trivial,?_⟩;refine hK _ _ ?_;clear hK K
        try simp only [Act.put,kBs]
        refine RJ 5 fun K hK=>?_;go_simp
        refine hK _ _ ?_;clear hK K
        try simp only [Act.put,kBs]
        exact key _ _ _ _ rfl (by kernel_rfl) (by simp only [List.foldl_cons,List.foldl_nil,kB3,kB4,kB5]) ⟨za NN,za KQ,za RG⟩
     rintro W3 t ht ⟨nn,kq,rg⟩;simp only [List.foldl_cons,List.foldl_nil,kB3,kB4,kB5] at ht;subst ht;clear NN KQ RG p0 y0;have NN:=hide nn;have KQ:=hide kq;have RG:=hide rg;clear nn kq rg;have p0:=(za NN).path.cell 0;have y0:=(za NN).box.cell 0;simp only [kA0,kA1] at p0 y0;refine RJ 8 fun K hK=>?_;go_simp
     refine ⟨fun _ _=>trivial,?_⟩;refine hK _ _ ?_;clear hK K
     try simp only [Act.put,kBs]
     refine RJ 9 fun K hK=>?_;go_simp
     refine hK _ _ ?_;clear hK K
     try simp only [Act.put,kBs]
     refine RJ 10 fun K hK=>?_;go_simp
     refine hK _ _ ?_;clear hK K
     try simp only [Act.put,kBs]
     refine wpAnyIn_done (by kernel_rfl) ?_ _;clear p0 y0
     gi_wp2
     go_roundw
     case rel=>exact ⟨_,cnt1,T++[c],za RG,by simp;omega,HG2,hide (by rw [Pl.kids_snoc,if_neg hpar,List.append_nil];exact za NN),KQ⟩
     case measure=>rw [(za RG).left_eq,za HLE];exact hlt
 case done=>
  rintro D xs W'' hD hS ⟨ys,hI,h2,h3⟩ hdef;rw [hS] at h2;have HI:=hide hI;have H2:=hide h2;clear hI h2
  gi_wp2
  refine leave (fun Z=>J ys Z) (fun Z hZ=>⟨_,results_none rfl _ _ _,⟨_,rfl⟩, .inl ⟨_,za H2,hZ⟩⟩) [D] W'' (by simp) (fun E hE=>?_) (za HI).got (fun E hE Z hZ hd=>?_)
  ·rcases List.mem_singleton.1 hE with rfl
   exact hdef
  ·rcases List.mem_singleton.1 hE with rfl
   exact hJ.putObj _ hZ (by have :=(za I3).from_;omega) hd rfl
 case stop=>
  rintro D c xs W'' hD _ ⟨rfl,ys,hI⟩ hdef;have HI:=hide hI;clear hI
  gi_wp2
  refine leave (fun Z=>Jx ys Z) (fun Z hZ=>⟨_,results_none rfl _ _ _,⟨_,rfl⟩, .inr ⟨_,trivial,hZ⟩⟩) [D] W'' (by simp) (fun E hE=>?_) (za HI).got (fun E hE Z hZ hd=>?_)
  ·rcases List.mem_singleton.1 hE with rfl
   exact hdef
  ·rcases List.mem_singleton.1 hE with rfl
   exact hJx.putObj _ hZ (by have :=(za I3).from_;omega) hd rfl
end Rng
end Go.Proofs.YtbomeifgfalmdaaGreatDoor
