/- Several texts of one claim in one file: WNestF, EachIt. -/
import Derived.Test.YtpggbphcbcogdaaGreatDoorG12
import Derived.Test.YtpggbphcbcogdaaGreatDoorG10
namespace Go.Proofs.YtpggbphcbcogdaaGreatDoor
section
open Go.RowKit
namespace zh4
set_option maxRecDepth 100000 in
theorem zs5 (k:Pl.Fo) (q:Option Nat) (m:Int) (a:Option Addr) (cap:Nat) (w:World):
  Calls Tryz.prog 76 #[.agg #[.map q, .int .i64 m, .slice a k.len cap]] w fun e w'=>e= .returned (.bool (decide (k.len=0)))∧Below w.heap.size w w':=by
 by_cases h:k.len=0
 ·have t:(k.len:Int)=0:=by omega
  go_enter Tryz.func76,Tryz.ntmps76
  go_wp2
  go_ret
  exact ⟨by simp [h],bE0⟩
 ·have t:¬ (k.len:Int)=0:=by omega
  go_enter Tryz.func76,Tryz.ntmps76
  go_wp2
  go_ret
  exact ⟨by simp [h],bE0⟩
end zh4
end
section
open Go.RowKit Go.Shelf
attribute [local go_sem] Oper.semAt_some
namespace Rng
abbrev Leaf (w0:World):={ x:Nat × Int × List Pl.Nd // Mem.ownM w0 x.1 x.2.2∧Pl.zb9 x.2.2=true }
abbrev leafV {w0:World} (x:Leaf w0):Value:= .agg #[.map (some x.1.1), .int .i64 x.1.2.1]
abbrev zr3 {w0:World} (x:Leaf w0):List Pl.Nd:=x.1.2.2
set_option maxRecDepth 100000 in
theorem each_any (q:Option Nat) (m:Int) (v:Value) (w:World):Calls Tryz.prog 58 #[.agg #[.map q, .int .i64 m,v]] w fun e w'=>e= .returned (.func (.func 75) #[] #[.pointer (some ⟨w.heap.size,0,none⟩)])∧w'=w.alloc (.cells #[.map q, .int .i64 m,v] 62):=by
 have hmf:∀ (fn:Fn) (first cap:Array Value) (w:World),(Instr.makeFunc fn first cap).run Tryz.prog w= .ok (.func fn first cap) w:=fun _ _ _ _=>rfl;go_enter Tryz.func58,Tryz.ntmps58
 go_wp2
 go_ret
 exact ⟨rfl,rfl⟩
def EachOk (w0:World) (C:World→Nat→Prop) (R:Nat→Prop) (n:Nat) (L:List Pl.Nd) (K:Pl.Fx) (b:Nat) (w:World):Prop:=
 Seq Fence.wide n Tryz.prog 75 #[.pointer (some ⟨b,0,none⟩)] (fun x:Leaf w0=>#[leafV x]) C R (fun xs=>xs.map zr3=Pl.za7 (.cons L K .nil)) (fun _=>True) (Pl.za7 (.cons L K .nil)).length w
set_option linter.unusedSimpArgs false in
set_option maxRecDepth 100000 in
set_option maxHeartbeats 2000000 in
theorem each_leaf (w0:World) (C:World→Nat→Prop) (R:Nat→Prop) (n:Nat) (L:List Pl.Nd) (q:Nat) (m:Int) (a:Option Addr) (cap b:Nat) (w:World)
  (hL:Pl.zb9 L=true) (hq:Mem.ownM w0 q L) (hb:Mem.Blk w b #[.map (some q), .int .i64 m, .slice a 0 cap] 62):EachOk w0 C R n L .nil b w:=fun l J Jx W _ _ hW hJ _ hY h0=>by
 have hbW:Mem.Blk W b #[.map (some q), .int .i64 m, .slice a 0 cap] 62:=hb.call hW;have c0:=hbW.cell 0;have c1:=hbW.cell 1;have c2:=hbW.cell 2;simp only [kA0,kA1,kA2] at c0 c1 c2;have hlt:=hbW.lt;have hlf:=hide (zh4.zs5 .nil (some q) m a cap);simp only [Pl.Fo.len] at hlf;have b1:Below W.heap.size W (W.alloc (.cells #[.func (.yield l) #[] #[]] 129)):=bE0;have hx1:=hbW.call b1;have y1:=Mem.Blk.new W #[.func (.yield l) #[] #[]] 129;have j1:=hJ [] W _ none h0 (Mem.za4 b1 none) (fun r e=>by cases e);have HY:=hide (hY [] ⟨(q,m,L),hq,hL⟩);clear hY hbW h0;refine callsIn_of_wp_marks Tryz.func75 rfl trivial ?_ rfl
 simp only [Tryz.ntmps75,List.size_toArray,List.length_cons,List.length_nil,Nat.reduceAdd,Nat.reduceSub,Array.replicate_succ,Array.replicate_zero,List.push_toArray,List.append_toArray,List.nil_append,List.cons_append]
 gi_wp2_with fail
 refine ⟨trivial,fun h=>(by cases h),?_⟩;refine (callsIn_wide.2 (za hlf _)).mono ?_;rintro e w2 ⟨rfl,b2⟩;simp only [decide_true] at *;have x2:=hx1.call b2;have y2:=y1.call b2;have j2:=hJ [] _ _ none j1 (Mem.za4 b2 none) (fun r e=>by cases e);have c0:=x2.cell 0;have c1:=x2.cell 1;have d0:=y2.cell 0;simp only [kA0,kA1,kA2] at c0 c1 d0;obtain ⟨fn,tmps,assign,body,hy,hR⟩:=za HY w2 j2 (by simp [Pl.za7,Pl.Fx.len]);clear HY j1 j2 x2 y2 hx1 y1 hlf b1 b2 c2
 gi_wp2_with fail
 refine ⟨fun h=>(by cases h),?_⟩;refine hR.mono ?_;rintro e W3 (⟨rfl,hJ3,hk3⟩|⟨rfl,hJx3,hk3⟩)
 ·gi_wp2
  exact ⟨_,results_none rfl _ _ _,⟨_,rfl⟩, .inl ⟨_,(by simp [Pl.za7,Pl.Fx.len]),hJ3⟩⟩
 ·gi_wp2
  exact ⟨_,results_none rfl _ _ _,⟨_,rfl⟩, .inr ⟨_,trivial,hJx3⟩⟩
structure It (w0 Ws:World) (C:World→Nat→Prop) (B l y:Nat) (J:List (Leaf w0)→World→Prop) (Ds:List Nat) (pre:List (Leaf w0)) (W:World):Prop where
 keep:Keep w0 W
 size:B≤W.heap.size
 from_:Ws.heap.size≤W.heap.size
 box:Mem.Blk W y #[.func (.yield l) #[] #[]] 129
 mine:¬C W y
 got:J pre W
 defs:∀D∈Ds,Ws.heap.size≤D∧W.heap[D]? =some (.deferred (some []))
 nodup:Ds.Nodup
theorem It.grown {w0 Ws:World} {C:World→Nat→Prop} {B l y:Nat} {J:List (Leaf w0)→World→Prop} {Ds:List Nat} {pre:List (Leaf w0)} {W W':World} {row:Option Nat} (h:It w0 Ws C B l y J Ds pre W) (hC:Good w0 B C) (hJ:OwnFrom Ws.heap.size J)
  (hw:w0.heap.size≤Ws.heap.size) (g:W.grownBy W' row) (hr:∀r,row=some r→Ws.heap.size≤r∧r∉Ds∧∃o:Obj,W.heap[r]? =some o∧o.isCells=false):It w0 Ws C B l y J Ds pre W':=
 ⟨h.keep.grown g (fun r e=>by have :=(hr r e).1;omega),Nat.le_trans h.size g.size,Nat.le_trans h.from_ g.size,
  h.box.grown g (fun e=>by
   obtain ⟨-, -,o,ho,hc⟩:=hr y e.symm;have h2:W.heap[y]? =some (.cells #[.func (.yield l) #[] #[]] 129 (0,0)):=h.box;rw [h2] at ho;cases ho
   cases hc),
  fun hc=>(hC.step W W' row h.size g (fun r e=>(hr r e).2.2) y hc).elim h.mine (fun h5=>by have :=h.box.lt;omega),
  hJ pre W W' row h.got g (fun r e=>⟨(hr r e).1,(hr r e).2.2⟩),
  fun D hD=>⟨(h.defs D hD).1,(g.block D (Array.getElem?_eq_some_iff.1 (h.defs D hD).2).1 (fun e=>(hr D e.symm).2.1 hD)).trans (h.defs D hD).2⟩,h.nodup⟩
theorem It.alloc {w0 Ws:World} {C:World→Nat→Prop} {B l y:Nat} {J:List (Leaf w0)→World→Prop} {Ds:List Nat} {pre:List (Leaf w0)} {W:World} (h:It w0 Ws C B l y J Ds pre W) (hC:Good w0 B C) (hJ:OwnFrom Ws.heap.size J)
  (hw:w0.heap.size≤Ws.heap.size) (o:Obj):It w0 Ws C B l y J Ds pre (W.alloc o):=h.grown hC hJ hw (World.grownBy_alloc W o none) (fun r e=>by cases e)
theorem It.next {w0 Ws:World} {C:World→Nat→Prop} {R:Nat→Prop} {B l y:Nat} {J:List (Leaf w0)→World→Prop} {Ds:List Nat} {pre pre':List (Leaf w0)} {W W':World} (h:It w0 Ws C B l y J Ds pre W) (hC:Good w0 B C) (hR:∀j,R j→w0.heap.size≤j∧j<Ws.heap.size)
  (k:Kq C R W W') (hj:J pre' W'):It w0 Ws C B l y J Ds pre' W':=by
 have h2:W.heap[y]? =some (.cells #[.func (.yield l) #[] #[]] 129 (0,0)):=h.box;refine ⟨h.keep.kq k (fun j hc=>(hC.rng W h.size j hc).1) (fun j hr=>(hR j hr).1),Nat.le_trans h.size k.size,Nat.le_trans h.from_ k.size,?_,fun hc=>?_,hj,fun D hD=>⟨(h.defs D hD).1,?_⟩,h.nodup⟩
 ·exact k.kept y _ h2 (fun _=>h.mine) (fun e=>by cases e)
 ·rcases k.mine y hc with h3|h3
  ·exact h.mine h3
  ·have :=(Array.getElem?_eq_some_iff.1 h2).1;omega
 ·exact k.kept D _ (h.defs D hD).2 (fun e=>by cases e) (fun _ hr=>by have :=(hR D hr).2;have :=(h.defs D hD).1;omega)
theorem row_drop {w:World} {N:Nat→Prop}:∀ (k:Nat) (F:Pl.Fx) (b i:Nat),Mem.rowX w N F b i→Mem.rowX w N (Pl.zg2 k F) b (i+3*k):=by
 intro k
 induction k with
 |zero=>intro F b i h;exact h
 |succ k ih=>
  intro F b i h;cases F with
  |nil=>trivial
  |cons L k' m=>have :=ih m b (i+3) h.2;rw [show i+3*(k+1)=i+3+3*k by omega];exact this
def Lp (w0 W:World) (C:World→Nat→Prop) (B l b g cap q:Nat) (mm:Int) (J:List (Leaf w0)→World→Prop) (K:Pl.Fx) (a':Act) (W':World):Prop:=
 ∃ (k:Nat) (Ds:List Nat) (pre:List (Leaf w0)) (u4 u5 u16 u17 u18 u19 u20 u21 u22 u23 u24 u25 u26:Value),k≤K.len∧
  a'={ tmps:=#[.func (.yield l) #[] #[], .pointer (some ⟨b,0,none⟩), .pointer (some ⟨W.heap.size,0,none⟩),undef,u4,u5, .agg #[.map (some q), .int .i64 mm, .slice (some ⟨g,0,none⟩) K.len cap], .bool false,undef,undef,undef,undef, .pointer (some ⟨b,2,none⟩), .slice (some ⟨g,0,none⟩) K.len cap, .int .i64 (K.len:Int), .int .i64 (k:Int),u16,u17,u18,u19,u20,u21,u22,u23,u24,u25,u26],defers:=Ds.map fun D=>{ target:= .collected D,args:=#[] } }∧
  It w0 W C B l W.heap.size J Ds pre W'∧pre.map zr3++Pl.za7 (Pl.zg2 k K)=Pl.za7 K
def lpM (K:Pl.Fx) (a':Act):Nat:=K.len - (intOf (a'.tmps[15]?.getD undef)).toNat
set_option linter.unusedSimpArgs false in
set_option maxRecDepth 100000 in
set_option maxHeartbeats 4000000 in
theorem each_ok (w0:World) (C:World→Nat→Prop) (B:Nat) (hC:Good w0 B C) (m:Nat):∀ (n:Nat) (R:Nat→Prop) (L:List Pl.Nd) (K:Pl.Fx) (q:Nat) (mm:Int) (a:Option Addr) (cap b:Nat) (w:World),K.sz≤m→B≤w.heap.size→(∀j,R j→w0.heap.size≤j)→
  (Pl.Fx.cons L K .nil).okX→Mem.ownM w0 q L→Mem.layX w0 (fun j=>j<w0.heap.size) K (.slice a K.len cap)→Keep w0 w→Mem.Blk w b #[.map (some q), .int .i64 mm, .slice a K.len cap] 62→EachOk w0 C R n L K b w:=by
 induction m with
 |zero=>
  intro n R L K q mm a cap b w hs hB hR hx hm hl hk hb;cases K with
  |nil=>exact each_leaf w0 C R n L q mm a cap b w hx.1 hm hb
  |cons L' k' m'=>simp [Pl.Fx.sz] at hs
 |succ m ih=>
  intro n R L K q mm a cap b w hs hB hR hx hm hl hk hb;by_cases hK0:K.len=0
  ·have e:=Pl.Fx.zm5 hK0;subst e;exact each_leaf w0 C R n L q mm a cap b w hx.1 hm hb
  obtain ⟨a',cap',e1,h2⟩:=hl
  injection e1 with e1 _ e2
  subst e1 e2
  rcases h2 with h2|⟨g,rfl,hcap,hrow⟩
  ·rw [h2] at hK0;exact absurd rfl hK0
  have hK4:K.len≤4:=hx.2.2.1;have hKX:K.okX:=hx.2.2.2.1;intro l J Jx W hRl hRW hW hJ hJx hY h0;have hbW:=hb.call hW;have kW:Keep w0 W:=hk.trans (Keep.of_below hW);have hBW:B≤W.heap.size:=Nat.le_trans hB hW.size;have hR2:∀j,R j→w0.heap.size≤j∧j<W.heap.size:=fun j h=>⟨hR j h,hRW j h⟩;have hlf:=hide (zh4.zs5 K.shape (some q) mm (some ⟨g,0,none⟩) cap);rw [Pl.Fx.zo7,show decide (K.len=0)=false from decide_eq_false hK0] at hlf;have b1:Below W.heap.size W (W.alloc (.cells #[.func (.yield l) #[] #[]] 129)):=bE0;have c0:=hbW.cell 0;have c1:=hbW.cell 1;have c2:=hbW.cell 2;simp only [kA0,kA1,kA2] at c0 c1 c2;have hlt:=hbW.lt;have hx1:=hbW.call b1
  have t1:It w0 W C B l W.heap.size J [] [] (W.alloc (.cells #[.func (.yield l) #[] #[]] 129)):=by
   have g1:=World.grownBy_alloc W (.cells #[.func (.yield l) #[] #[]] 129) none;exact ⟨kW.grown g1 (fun r e=>by cases e),by simp;omega,by simp,Mem.Blk.new _ _ _,fun hc=>hC.typ _ _ _ _ hBW (Mem.Blk.new W _ _) (by decide) hc,hJ [] W _ none h0 g1 (fun r e=>by cases e),(fun D hD=>by cases hD),List.nodup_nil⟩
  have HRW:=hide hrow;have HY:=hide hY;have hN:Pl.za7 (.cons L K .nil)=Pl.za7 K:=by rw [Pl.za7,if_neg hK0,Pl.za7,List.append_nil]
  have HN:=hide hN;clear hN;clear hrow hY h0 hbW hb;refine callsIn_of_wp_marks Tryz.func75 rfl trivial ?_ rfl;simp only [Tryz.ntmps75,List.size_toArray,List.length_cons,List.length_nil,Nat.reduceAdd,Nat.reduceSub,Array.replicate_succ,Array.replicate_zero,List.push_toArray,List.append_toArray,List.nil_append,List.cons_append]
  gi_wp2_with fail
  refine ⟨trivial,fun h=>(by cases h),?_⟩;refine (callsIn_wide.2 (za hlf _)).mono ?_;rintro e w2 ⟨rfl,b2⟩;have x2:=hx1.call b2;have t2:It w0 W C B l W.heap.size J [] [] w2:=t1.grown hC hJ kW.size (Mem.za4 b2 none) (fun r e=>by cases e);have c0:=x2.cell 0;have c1:=x2.cell 1;have c2:=x2.cell 2;simp only [kA0,kA1,kA2] at c0 c1 c2;have T2:=hide t2;clear t1 t2 x2 hx1 hlf b1 b2
  gi_wp2_with fail
  have H0:Lp w0 W C B l b g cap q mm J K { tmps:=#[.func (.yield l) #[] #[], .pointer (some ⟨b,0,none⟩), .pointer (some ⟨W.heap.size,0,none⟩),undef,undef,undef, .agg #[.map (some q), .int .i64 mm, .slice (some ⟨g,0,none⟩) K.len cap], .bool false,undef,undef,undef,undef, .pointer (some ⟨b,2,none⟩), .slice (some ⟨g,0,none⟩) K.len cap, .int .i64 (K.len:Int), .int .i64 0,undef,undef,undef,undef,undef,undef,undef,undef,undef,undef,undef],defers:=[] } w2:=
   ⟨0,[],[],_,_,_,_,_,_,_,_,_,_,_,_,_,Nat.zero_le _,rfl,za T2,rfl⟩
  clear T2 c0 c1 c2;refine wpIn_loop (Lp w0 W C B l b g cap q mm J K) (fun a' _=>lpM K a') H0 (fun a' W' hr=>?_);clear H0;generalize hKx:(fun a'' w''=>Lp w0 W C B l b g cap q mm J K a'' w''∧lpM K a''<lpM K a')=Kx;obtain ⟨k,Ds,pre,u4,u5,u16,u17,u18,u19,u20,u21,u22,u23,u24,u25,u26,hk,rfl,hI,hpl⟩:=hr
  have HKx:Hid (∀ (k':Nat) (Ds':List Nat) (pre':List (Leaf w0)) (u4 u5 u16 u17 u18 u19 u20 u21 u22 u23 u24 u25 u26:Value) (W'':World),k'≤K.len→k<k'→It w0 W C B l W.heap.size J Ds' pre' W''→pre'.map zr3++Pl.za7 (Pl.zg2 k' K)=Pl.za7 K→
    Kx { tmps:=#[.func (.yield l) #[] #[], .pointer (some ⟨b,0,none⟩), .pointer (some ⟨W.heap.size,0,none⟩),undef,u4,u5, .agg #[.map (some q), .int .i64 mm, .slice (some ⟨g,0,none⟩) K.len cap], .bool false,undef,undef,undef,undef, .pointer (some ⟨b,2,none⟩), .slice (some ⟨g,0,none⟩) K.len cap, .int .i64 (K.len:Int), .int .i64 (k':Int),u16,u17,u18,u19,u20,u21,u22,u23,u24,u25,u26],defers:=Ds'.map fun D=>{ target:= .collected D,args:=#[] } } W''):=fun k' Ds' pre' u4 u5 u16 u17 u18 u19 u20 u21 u22 u23 u24 u25 u26 W'' h1 h2 h3 h4=>by
   rw [←hKx];exact ⟨⟨k',Ds',pre',u4,u5,u16,u17,u18,u19,u20,u21,u22,u23,u24,u25,u26,h1,rfl,h3,h4⟩,by simp [lpM,intOf];omega⟩
  clear hKx;by_cases hlt:k<K.len
  ·obtain ⟨L',k',m',hdr⟩:∃L' k' m',Pl.zg2 k K= .cons L' k' m':=by
    have :=Pl.drop_len k K;cases hd:Pl.zg2 k K with
    |nil=>rw [hd] at this;simp [Pl.Fx.len] at this;omega
    |cons L' k' m'=>exact ⟨L',k',m',rfl⟩
   have hrw:=row_drop k K g 0 (za HRW);rw [hdr] at hrw;obtain ⟨⟨q',a',cap',e1,e2,e3,e4,e5,e6,e7,e8⟩, -⟩:=hrw;rw [show 0+3*k=k*3 by omega] at e1 e2 e3;have kI:=hI.keep;have d0:=(kI.cell (p:=⟨g,k*3,none⟩) e4).trans e1;have d1:=(kI.cell (p:=⟨g,k*3+1,none⟩) e4).trans e2;have d2:=(kI.cell (p:=⟨g,k*3+2,none⟩) e4).trans e3;have y1:(k:Int)<(K.len:Int):=by omega
   have hix:0≤(k:Int)∧(k:Int)<(K.len:Int):=by omega
   have hokd:=Pl.drop_ok (n:=k) hKX;rw [hdr] at hokd;have hszd:=Pl.drop_sz hdr;have HE:=hide (⟨e7,e8⟩:_∧_);have HI:=hide hI;clear e1 e2 e3 e7 e8 hI kI
   gi_wp2_with fail
   refine ⟨trivial,fun h=>(by cases h),?_⟩;refine (callsIn_wide.2 (each_any _ _ _ _)).mono ?_;rintro e w3 ⟨rfl,hw3⟩;have z1:(W'.alloc (.cells #[.map (some q'), .int .i64 (k'.len:Int), .slice a' k'.len cap'] 62)).heap.size=W'.heap.size+1:=by simp
   rw [z1];have i3:It w0 W C B l W.heap.size J Ds pre w3:=by rw [hw3];exact ((za HI).alloc hC hJ kW.size _).alloc hC hJ kW.size _
   have z3:w3.heap.size=W'.heap.size+2:=by rw [hw3];simp
   have x3:Mem.Blk w3 (W'.heap.size+1) #[.map (some q'), .int .i64 (k'.len:Int), .slice a' k'.len cap'] 62:=by rw [hw3];exact Mem.zi9 _ _ _
   have hn3:K.sz≤m+1:=hs;have SQ:=hide (ih (n - 1) (fun j=>R j∨j=w3.heap.size+1) L' k' q' (k'.len:Int) a' cap' (W'.heap.size+1) w3 (by omega) i3.size (fun j h=>h.elim (fun h=>hR j h) (fun h=>by have :=i3.keep.size;omega)) ⟨hokd.1,hokd.2.1,hokd.2.2.1,hokd.2.2.2.1,trivial⟩ (za HE).1 ⟨a',cap',rfl,(za HE).2⟩ i3.keep x3);have hR3:∀j,R j→j<w3.heap.size:=fun j h=>by have :=(hR2 j h).2;have :=i3.from_;omega
   have hlenP:pre.length+(Pl.za7 (.cons L' k' .nil)).length≤(Pl.za7 (.cons L K .nil)).length:=by
    rw [za HN,←hpl,hdr,List.length_append,List.length_map,Pl.za7,Pl.za7,Pl.za7,List.length_append,List.length_append];simp
   have HLN:=hide hlenP;have I3:=hide i3;have Z3:=hide z3;clear z1 hw3 HI i3 z3 x3 d0 d1 d2 hlenP
   gi_wp2_with fail
   refine range rfl (fun h=>(by cases h)) (gf:=75) (lb:=#[.pointer (some ⟨W'.heap.size+1,0,none⟩)]) rfl trivial (enters_of Tryz.func75 (by kernel_rfl) rfl) (C:=C) (R:=R) (za SQ) (Below.refl _ _) (fun _=>rfl) (hC.step.up (za I3).size) hR3
    (fun xs W''=>It w0 W C B l W.heap.size J Ds (pre++xs) W'')
    (fun c xs W''=>c= .ret∧It w0 W C B l W.heap.size Jx Ds (pre++xs) W'')
    (fun xs A A' row h g hr=>h.grown hC hJ kW.size g (fun r e=>⟨by have :=(hr r e).1;have :=(za I3).from_;omega,fun hD=>by have :=(hr r e).1;have :=(Array.getElem?_eq_some_iff.1 ((za I3).defs r hD).2).1;omega,(hr r e).2⟩))
    (fun c xs A A' row h g hr=>⟨h.1,h.2.grown hC hJx kW.size g (fun r e=>⟨by have :=(hr r e).1;have :=(za I3).from_;omega,fun hD=>by have :=(hr r e).1;have :=(Array.getElem?_eq_some_iff.1 ((za I3).defs r hD).2).1;omega,(hr r e).2⟩)⟩)
    (by rw [List.append_nil];exact za I3)
    (fun x a'' W''=>∃Bx,Mem.Blk W'' Bx #[.map (some x.1.1), .int .i64 x.1.2.1] 59∧a''={ tmps:=#[.func (.yield l) #[] #[], .pointer (some ⟨b,0,none⟩), .pointer (some ⟨W.heap.size,0,none⟩),undef, .pointer (some ⟨W'.heap.size,0,none⟩), .pointer (some ⟨Bx,0,none⟩), .agg #[.map (some q), .int .i64 mm, .slice (some ⟨g,0,none⟩) K.len cap], .bool false,undef,undef,undef,undef, .pointer (some ⟨b,2,none⟩), .slice (some ⟨g,0,none⟩) K.len cap, .int .i64 (K.len:Int), .int .i64 (k:Int), .bool true, .pointer (some ⟨g,k*3,none⟩), .agg #[.map (some q'), .int .i64 (k'.len:Int), .slice a' k'.len cap'], .agg #[.map (some q'), .int .i64 (k'.len:Int), .slice a' k'.len cap'], .func (.func 75) #[] #[.pointer (some ⟨W'.heap.size+1,0,none⟩)], .agg #[.map (some x.1.1), .int .i64 x.1.2.1],u22,u23,u24,u25,u26],defers:=[] })
    (fun x a'' _ A A' row h g hr=>by
     obtain ⟨Bx,h1,h2⟩:=h;refine ⟨Bx,h1.grown g (fun e=>?_),h2⟩;obtain ⟨o,ho,hc⟩:=(hr Bx e.symm).2;have h3:A.heap[Bx]? =some (.cells #[.map (some x.1.1), .int .i64 x.1.2.1] 59 (0,0)):=h1;rw [h3] at ho;cases ho
     cases hc) ?assign ?body ?done ?stop
   case assign=>
    intro l' xs x W'' Kz hI hz hK
    gi_wp2
    exact hK _ _ (Kq.alloc hC.step hI.size _) (hI.alloc hC hJ kW.size _) ⟨W''.heap.size,Mem.Blk.new _ _ _,rfl⟩
   case body=>
    rintro l' xs x a'' W'' hI ⟨Bx,hx,rfl⟩ hlen hz;have y0:=hI.box.cell 0;have x0:=hx.cell 0;have x1:=hx.cell 1;simp only [kA0,kA1,kA2] at y0 x0 x1;obtain ⟨fn,tmps,assign,body,hy,hR'⟩:=zg0 (F:=Fence.wide) rfl (n - 1 - 1 - 1) (za HY (pre++xs) x W'' hI.got (by have :=za HLN;rw [List.length_append];omega));have HI:=hide hI;clear hI hx
    gi_wp2_with fail
    refine ⟨fun h=>(by cases h),?_⟩;refine hR'.mono ?_;rintro e W3 (⟨rfl,hJ3,hk3⟩|⟨rfl,hJx3,hk3⟩)
    ·have n3:=hide ((za HI).next hC hR2 hk3 hJ3)
     gi_wp2
     exact ⟨hk3,by show It w0 W C B l W.heap.size J Ds (pre++(xs++[x])) W3;rw [←List.append_assoc];exact za n3⟩
    ·have hI4:=(za HI)
     have n3:It w0 W C B l W.heap.size Jx Ds (pre++(xs++[x])) W3:=by
      have n4:=It.next (J:=fun ys Z=>J ys Z∨Jx ys Z) ⟨hI4.keep,hI4.size,hI4.from_,hI4.box,hI4.mine, .inl hI4.got,hI4.defs,hI4.nodup⟩ hC hR2 hk3 (.inr hJx3);rw [←List.append_assoc];exact ⟨n4.keep,n4.size,n4.from_,n4.box,n4.mine,hJx3,n4.defs,n4.nodup⟩
     have N3:=hide n3;clear n3 hI4
     gi_wp2
     exact ⟨hk3,rfl,za N3⟩
   case done=>
    rintro D xs W'' hD hS hI hdef;have hnD:D∉Ds:=fun h=>by have :=(Array.getElem?_eq_some_iff.1 ((za I3).defs D h).2).1;omega
    have n3:It w0 W C B l W.heap.size J (D::Ds) (pre++xs) W'':=⟨hI.keep,hI.size,hI.from_,hI.box,hI.mine,hI.got,fun E hE=>by
     rcases List.mem_cons.1 hE with rfl |hE
     ·exact ⟨by have :=(za I3).from_;omega,hdef⟩
     ·exact hI.defs E hE,List.nodup_cons.2 ⟨hnD,hI.nodup⟩⟩
    have hl3:(pre++xs).map zr3++Pl.za7 (Pl.zg2 (k+1) K)=Pl.za7 K:=by
     rw [List.map_append,hS];exact Pl.drop_leaves hdr _ hpl
    have HF:=hide (za HKx (k+1) (D::Ds) (pre++xs));have N3:=hide n3;have L3:=hide hl3;clear n3 hl3 hI HKx
    gi_wp2
    exact za HF _ _ _ _ _ _ _ _ _ _ _ _ _ _ (by omega) (by omega) (za N3) (za L3)
   case stop=>
    rintro D c xs W'' hD _ ⟨rfl,hI⟩ hdef;have hnD:D∉Ds:=fun h=>by have :=(Array.getElem?_eq_some_iff.1 ((za I3).defs D h).2).1;omega
    have HI:=hide hI;clear hI
    gi_wp2
    refine leave (fun Z=>Jx (pre++xs) Z) (fun Z hZ=>⟨_,results_none rfl _ _ _,⟨_,rfl⟩, .inr ⟨_,trivial,hZ⟩⟩) (D::Ds) W'' (List.nodup_cons.2 ⟨hnD,(za HI).nodup⟩) (fun E hE=>?_) (za HI).got (fun E hE Z hZ hd=>?_)
    ·rcases List.mem_cons.1 hE with rfl |hE
     ·exact hdef
     ·exact ((za HI).defs E hE).2
    ·refine hJx.putObj _ hZ ?_ hd rfl
     rcases List.mem_cons.1 hE with rfl |hE
     ·have :=(za I3).from_;omega
     ·exact ((za HI).defs E hE).1
  ·obtain rfl:k=K.len:=by omega
   have y1:¬ ((K.len:Int)<(K.len:Int)):=by omega
   have HI:=hide hI
   have hS:pre.map zr3=Pl.za7 (.cons L K .nil):=by
    have h2:Pl.zg2 K.len K= .nil:=Pl.Fx.zm5 (by rw [Pl.drop_len];omega);rw [h2,Pl.za7,List.append_nil] at hpl;rw [za HN,hpl]
   have HS:=hide hS;clear hI hS hpl HKx
   gi_wp2
   refine leave (fun Z=>J pre Z) (fun Z hZ=>⟨_,results_none rfl _ _ _,⟨_,rfl⟩, .inl ⟨_,za HS,hZ⟩⟩) Ds W' (za HI).nodup (fun E hE=>((za HI).defs E hE).2) (za HI).got (fun E hE Z hZ hd=>hJ.putObj _ hZ ((za HI).defs E hE).1 hd rfl)
end Rng
end
end Go.Proofs.YtpggbphcbcogdaaGreatDoor
