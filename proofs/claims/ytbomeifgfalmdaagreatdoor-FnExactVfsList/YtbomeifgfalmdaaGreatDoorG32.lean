/- Several texts of one claim in one file: MapLookI, WSpNest, WVfs2, WVfsL1, EachIt, MapGot, MapSize, WParI. -/
import Derived.Test.YtbomeifgfalmdaaGreatDoorG12
import Derived.Test.YtbomeifgfalmdaaGreatDoorPlainSpT
import Derived.Test.YtbomeifgfalmdaaGreatDoorWWkI
import Derived.Test.YtbomeifgfalmdaaGreatDoorPlainVfs2
import Derived.Test.YtbomeifgfalmdaaGreatDoorG18
import Derived.Sort.MapsRangeIn
set_option linter.unusedSimpArgs false
set_option maxRecDepth 100000
set_option maxHeartbeats 4000000
namespace Go.Proofs.YtbomeifgfalmdaaGreatDoor
section
open Go.RowKit Go.Maps
namespace MapI
theorem look_no {P:Program} (w:World) {ops:Array Oper} {rest:List Oper} {o:Oper} {a:Act} {Q:Exit→Act→World→Prop} (hg:o.guard=none) (m x:Operand) (t:TypeId) (hop:o.op=Op.lookup t m x false)
  (k e:TypeId) (K:Keyed P k) (ht:P.underlying t=some (.map k e)) (z:Value) (hz:(zeroValue e).run P w= .ok z w) (b n:Nat) (D:DataW Value)
  (hm:a.eval m= .map (some b)) (hown:w.ownsMap P k elem b n D) (kv:Value) (kl:Lit) (hx:a.eval x=kv) (hkey:keyOf P k kv=some kl) (v:Value) (hat:D.atKey kl (dat z)=dat v)
  (hK:wpList P ops Q rest (a.put o.dst v) w):
  wpList P ops Q (o::rest) a w:=by
 refine wpList_plain hg fun K' hK'=>?_;obtain ⟨v1,ps,hrun,hv⟩:=hown.lookup K ht hz (zt2 _) hkey
 have hd:v1=v:=by
  unfold elem at hv;simp only [Option.some.injEq,Prod.mk.injEq] at hv;rw [hat] at hv;exact zt7 hv.1
 subst hd;unfold Oper.wp;simp [execOp,hop,hm,hx,hrun,Result.andThen]
 exact hK' _ _ hK
end MapI
end
section
open Go.RowKit Go.Maps
namespace WSpI
theorem nest_is {w:World} {B:Nat} {y:Pl.Nv} {R:List (Int × List Pl.Nd)} (h:Mem.zj3 w B y R) (hr:(Pl.nest (Pl.rowO R)).isSome=true):∃L k q,y.m=some q∧y.n=k.len∧Mem.ownM w q L∧Mem.layX w (fun b=>b<w.heap.size) k (.slice y.a k.len y.cap)∧(Pl.Fx.cons L k .nil).okX∧Pl.nestX R=some (L,k):=by
 obtain ⟨L,k,q,h1,h2,⟨-,h5⟩,⟨h6,h7⟩,h8⟩:=h;refine ⟨L,k,q,h1,h2,h5,Mem.zr6 h8 (fun b _ hb=>hb),h6,?_⟩;cases hF:Pl.nest (Pl.rowO R) with
 |none=>rw [hF] at hr;cases hr
 |some F=>
  have e1:=(Pl.zt hF).2.1;have e2:=Pl.ye6 (Pl.Fx.cons L k .nil) [] h6;rw [List.append_nil,h7] at e2;have e3:(Pl.Fx.cons L k .nil).len=1:=rfl;rw [e3,e1] at e2
  injection e2 with e2
  injection e2 with e2 _
  injection e2 with e2 _
  exact Pl.yb9 (by rw [hF,e2]) h7
end WSpI
end
section
open Go.RowKit Go.Maps
namespace WVfs
theorem join1 (t:ByteArray) (b:Nat) (T:TypeId) (w:World) (ht:t.size≤1048576) (hv:Mem.Blk w b #[.string t] T):
  Calls Tryz.prog 92 #[.slice (some ⟨b,0,none⟩) 1 1] w fun e w'=>e= .returned (.string t)∧Below w.heap.size w w':=by
 have h:=WJoin.any b 0 1 [t] w (by simp) (by rw [Pl.tot_one];omega) (fun j u hj=>by
  match j,hj with
  |0,hj=>simp at hj;subst hj;exact hv.cell 0
  |j+1,hj=>simp at hj) hv.lt
 rw [Pl.cat_one,show (⟨t.data.toList.toArray⟩:ByteArray)=t by simp] at h;exact h
end WVfs
end
section
open Go.RowKit Go.Maps
namespace WVfs
structure Nin (w:World) (XS:List (Int × List Pl.Nd)) (L:List Pl.Nd) (K:Pl.Fx) (q:Nat) (v:Value):Prop where
 own:Mem.ownM w q L
 lay:Mem.layX w (fun b=>b<w.heap.size) K v
 ok:(Pl.Fx.cons L K .nil).okX
 flat:(Pl.Fx.cons L K .nil).flat=XS
 nest:Pl.nestX XS=some (L,K)
theorem Nin.call {w w':World} {XS:List (Int × List Pl.Nd)} {L:List Pl.Nd} {K:Pl.Fx} {q:Nat} {v:Value} (h:Nin w XS L K q v) (b:Below w.heap.size w w'):Nin w' XS L K q v:=
 ⟨h.own.call b,Mem.zr6 (Mem.zo1 h.lay b) (fun _ _ hb=>hb),h.ok,h.flat,h.nest⟩
theorem nest_flat {w:World} {B:Nat} {y:Pl.Nv} {R:List (Int × List Pl.Nd)} (h:Mem.zj3 w B y R) (hr:(Pl.nest (Pl.rowO R)).isSome=true):∃L k q,y.m=some q∧y.n=k.len∧Nin w R L k q (.slice y.a k.len y.cap):=by
 obtain ⟨L,k,q,h1,h2,h3,h4,h5,h6⟩:=WSpI.nest_is h hr;obtain ⟨L',k',q',e1,e2, -,⟨e6,e7⟩, -⟩:=h
 have h7:Pl.nestX R=some (L',k'):=by
  cases hF:Pl.nest (Pl.rowO R) with
  |none=>rw [hF] at hr;cases hr
  |some F=>
   have f1:=(Pl.zt hF).2.1;have f2:=Pl.ye6 (Pl.Fx.cons L' k' .nil) [] e6;rw [List.append_nil,e7] at f2;have f3:(Pl.Fx.cons L' k' .nil).len=1:=rfl;rw [f3,f1] at f2
   injection f2 with f2
   injection f2 with f2
   injection f2 with f2 _
   exact Pl.yb9 (by rw [hF,f2]) e7
 rw [h6] at h7
 injection h7 with h7
 injection h7 with h8 h9
 subst h8 h9;exact ⟨L,k,q,h1,h2,h3,h4,h5,e7,h6⟩
def FoundL (q:ByteArray) (o:Option Pl.Nd) (K:Pl.Fx) (qm:Nat) (a:Option Addr) (cap:Nat) (e:Ending):Prop:=
 ((q.size=0∨∃n,o=some n∧n.kind=1)∧e= .returned (.tuple #[.iface 137 (.agg #[.map (some qm), .int .i64 (K.len:Int), .slice a K.len cap, .string q]), .nilIface]))∨
 (¬q.size=0∧o=none∧e= .returned (.tuple #[.nilIface,fault 6]))∨
 (¬q.size=0∧∃n,o=some n∧n.kind=2∧∃d t,e= .returned (.tuple #[.iface 178 (.agg #[.string d, .int .i64 t]), .nilIface]))
theorem findL_any (s:Pl.Sp) (q:Nat) (E:List (Int × Pl.Nv)) (sa ta:Option Addr) (sc tc B:Nat) (d:Int) (RT:ByteArray) (w:World) (hG:SpO.SpV B w s q E sa sc ta tc) (hrise:(s.N.map (·.d)).Pairwise (· < ·)) (x:Pl.Ns) (k:Nat) (hx:s.N[k]? =some x) (hxd:x.d=d) (hi:MapI.i64 d) (hr:(Pl.nest (Pl.rowO (x.Is.map Pl.It.r))).isSome=true) (hp:Pl.za0 RT=true):
  Calls Tryz.prog 58 #[.agg #[.map (some q), .slice sa s.M.length sc, .slice ta s.H.length tc, .int .i64 s.next, .int .i64 d, .string RT]] w fun e w'=>(∃L K qm na nc,Nin w (x.Is.map Pl.It.r) L K qm (.slice na K.len nc)∧FoundL RT (Pl.zk1 (x.Is.map Pl.It.r) RT) K qm na nc e)∧Below w.heap.size w w':=by
 have HKN:=hide (fun hz n h=>Pl.yj9 hr hp (n:=n) hz h);have b0:Below w.heap.size w (w.alloc (.cells #[.map (some q), .slice sa s.M.length sc, .slice ta s.H.length tc, .int .i64 s.next, .int .i64 d, .string RT] 67)):=bE0;have V0:=Mem.Blk.new w #[.map (some q), .slice sa s.M.length sc, .slice ta s.H.length tc, .int .i64 s.next, .int .i64 d, .string RT] 67;have G0:=hG.call b0;have hnw:=SpO.nest_of hG.nests hG.ids (hrise.imp (fun h=>by omega)) hx;have hnv:=SpO.nest_of G0.nests G0.ids (hrise.imp (fun h=>by omega)) hx;have hLK:=(Pl.zy1 (E:=E) (by have :=hG.ids;have h2:(E.map (·.1)).Pairwise (· < ·):=(by rw [this];exact hrise);exact (List.pairwise_map.1 h2).imp (fun h=>by omega)) d).2;have HMO:=hide G0.mo;rw [hxd] at hnv hnw;generalize Pl.getN E d=nv at hnv hnw hLK;obtain ⟨L,K,q',h1,h2,hNI⟩:=nest_flat hnw hr;obtain ⟨nm,nn,na,nc⟩:=nv
 simp only at h1 h2 hNI;subst h1 h2;have hN0:=hNI.call b0;have h3:=hN0.own;have h4:=hN0.lay;have h5:=hNI.ok;have h6:=hNI.nest;have HNI:=hide hNI;have HAT:=hide hLK;have HWV:Hid (Pl.zk1 (x.Is.map Pl.It.r) RT=Pl.zc9 L K RT):=hide (by unfold Pl.zk1;rw [h6]);generalize Pl.zk1 (x.Is.map Pl.It.r) RT=o at HKN HWV ⊢
 have bN:Below (w.alloc (.cells #[.map (some q), .slice sa s.M.length sc, .slice ta s.H.length tc, .int .i64 s.next, .int .i64 d, .string RT] 67)).heap.size (w.alloc (.cells #[.map (some q), .slice sa s.M.length sc, .slice ta s.H.length tc, .int .i64 s.next, .int .i64 d, .string RT] 67)) ((w.alloc (.cells #[.map (some q), .slice sa s.M.length sc, .slice ta s.H.length tc, .int .i64 s.next, .int .i64 d, .string RT] 67)).alloc (.cells #[.map (some q'), .int .i64 K.len, .slice na K.len nc] 135)):=bE0;have b1:=b0.trans (bN.mono b0.size);have V1:=V0.call bN
 have X1:=Mem.Blk.new (w.alloc (.cells #[.map (some q), .slice sa s.M.length sc, .slice ta s.H.length tc, .int .i64 s.next, .int .i64 d, .string RT] 67)) #[.map (some q'), .int .i64 K.len, .slice na K.len nc] 135;have HW:=hide (WWk.walk_any K.shape.depth K L q' (K.len:Int) (.slice na K.len nc) RT _ (Nat.le_refl _) h5.2.2.1 h5.2.2.2.1 h5.1 (h3.call bN) (Mem.zr6 (Mem.zo1 h4 bN) (fun b _ hb=>hb)) hp);have hkey:=MapI.zo0 hi;have a0:=V0.cell 0;have a4:=V0.cell 4;have v5:=V1.cell 5;obtain ⟨x0,x1,x2⟩:=jc3 X1;simp only [kGs] at a0 a4 v5;have KV:=hide V1;have KX:=hide X1;have KB:=hide b1;clear hG hnv hnw hNI hN0 hLK h3 h4 h5 h6 G0 V0 b0 b1 V1 X1 bN hrise;go_enter Tryz.func58,Tryz.ntmps58
 go_wp2_with (at_lookup;refine MapI.look_no _ rfl _ _ 63 rfl 2 135 MapI.law Tryz.underlying63 _ (Pl.zx3 _) q 12 _ rfl (za HMO) _ _ rfl hkey _ (za HAT) ?_)
 have hq2:((w.alloc (.cells #[.map (some q), .slice sa s.M.length sc, .slice ta s.H.length tc, .int .i64 s.next, .int .i64 d, .string RT] 67)).alloc (.cells #[.map (some q'), .int .i64 K.len, .slice na K.len nc] 135)).heap.size=w.heap.size+2:=by simp
 rw [show (w.alloc (.cells #[.map (some q), .slice sa s.M.length sc, .slice ta s.H.length tc, .int .i64 s.next, .int .i64 d, .string RT] 67)).heap.size=w.heap.size+1 by simp] at KX;generalize (w.alloc (.cells #[.map (some q), .slice sa s.M.length sc, .slice ta s.H.length tc, .int .i64 s.next, .int .i64 d, .string RT] 67)).alloc (.cells #[.map (some q'), .int .i64 K.len, .slice na K.len nc] 135)=w2 at HW KV KX KB hq2 ⊢;clear a0 a4 v5 x0 x1 x2;refine (za HW).mono ?_;rintro e w3 ⟨⟨⟨np,nk,nd,nt,nm⟩,b,rfl,hO⟩,b3⟩;have hO2:=(za HWV).trans hO;clear HW HWV hO HMO HAT;have b4:Below w3.heap.size w3 (w3.alloc (.cells #[.string np, .int .i64 nk, .string nd, .int .i64 nt, .int .i64 0] 55)):=bE0;have bb:=b3.trans (b4.mono b3.size);have V4:=(za KV).call bb;have X4:=(za KX).call bb
 have B4:=hide ((za KB).trans (bb.mono (za KB).size));have N4:=Mem.Blk.new w3 #[.string np, .int .i64 nk, .string nd, .int .i64 nt, .int .i64 0] 55;have v5:=V4.cell 5;obtain ⟨x0,x1,x2⟩:=jc3 X4;have n1:=N4.cell 1;have n2:=N4.cell 2;have n3:=N4.cell 3;simp only [kGs] at v5 n1 n2 n3;clear KV KX KB b3 bb;by_cases hz:RT.size=0
 ·have t2:RT.toList.isEmpty=true:=by rw [Pl.zb7];simpa [Pl.zf5] using hz
  go_wp2
  go_ret2
  exact ⟨⟨L,K,q',na,nc,za HNI, .inl ⟨.inl hz,rfl⟩⟩,za B4⟩
 have t2:RT.toList.isEmpty=false:=by rw [Pl.zb7];simpa [Pl.zf5] using hz
 cases b with
 |false=>
  have z1:FoundL RT o K q' na nc (.returned (.tuple #[.nilIface,fault 6])):= .inr (.inl ⟨hz,hO2,rfl⟩);unfold fault at z1;clear hO2;go_wp2
  go_ret2
  exact ⟨⟨L,K,q',na,nc,za HNI,z1⟩,za B4⟩
 |true=>
  by_cases hk:nk=1
  ·subst hk;have z1:FoundL RT o K q' na nc (.returned (.tuple #[.iface 137 (.agg #[.map (some q'), .int .i64 (K.len:Int), .slice na K.len nc, .string RT]), .nilIface])):= .inl ⟨.inr ⟨_,hO2,rfl⟩,rfl⟩;clear hO2;go_wp2
   go_ret2
   exact ⟨⟨L,K,q',na,nc,za HNI,z1⟩,za B4⟩
  ·have y1:(nk==1)=false:=by simpa using hk
   have hk2:nk=2:=by
    rcases (za HKN hz _ hO2).1 with h|h
    ·exact absurd h hk
    ·exact h
   subst hk2;have hds:nd.size≤60:=(za HKN hz _ hO2).2;have z1:FoundL RT o K q' na nc (.returned (.tuple #[.iface 178 (.agg #[.string nd, .int .i64 nt]), .nilIface])):= .inr (.inr ⟨hz,_,hO2,rfl,_,_,rfl⟩);clear hO2 y1 hk;have HB:=hide (fun W (b:Below (w3.alloc (.cells #[.string np, .int .i64 2, .string nd, .int .i64 nt, .int .i64 0] 55)).heap.size (w3.alloc (.cells #[.string np, .int .i64 2, .string nd, .int .i64 nt, .int .i64 0] 55)) W)=>(za B4).trans (b.mono (za B4).size));go_upto_region 7 with fail
   generalize w3.alloc (.cells #[.string np, .int .i64 2, .string nd, .int .i64 nt, .int .i64 0] 55)=w4 at N4 HB ⊢;generalize w3.heap.size=X at N4 ⊢;clear b4 V4 X4 B4 v5 x0 x1 x2 n1 n2 n3;have MK:Hid (∀W',Below w4.heap.size w4 W'→(Below w4.heap.size w4 W'∧W'.cell? ⟨X,2,none⟩=some (.string nd)∧W'.cell? ⟨X,3,none⟩=some (.int .i64 nt))):=hide (fun W' b=>⟨b,(N4.call b).cell 2,(N4.call b).cell 3⟩);refine RG MK (bD _) fun hHeld=>?_;generalize w4.drew=D0 at hHeld ⊢;refine TB 0 ?_;refine TB 1 ?_;refine TB 4 ?_;refine TB 5 ?_;refine RN 2 fun K hK=>?_;go_simp
   have Z1:=Mem.Blk.new D0 #[.string nd] 9;have b1:=hHeld.1.trans (((bE0:Below D0.heap.size D0 (D0.alloc (.cells #[.string nd] 9)))).mono hHeld.1.size);refine hK.out _ _ ?_ (fun hHeld=>?_)
   ·exact za MK _ b1
   clear hK K b1
   try simp only [Act.put,kBs]
   generalize D0.alloc (.cells #[.string nd] 9)=D1 at hHeld Z1 ⊢;generalize D0.heap.size=Y at Z1 ⊢;refine RN 3 fun K hK=>?_;go_simp
   refine (join1 nd Y _ D1 (by omega) Z1).mono ?_;rintro e D2 ⟨rfl,bX⟩;refine hK.out _ _ ?_ (fun hHeld2=>?_)
   ·exact za MK _ (hHeld.1.trans (bX.mono hHeld.1.size))
   clear hK K bX Z1 hHeld
   try simp only [Act.put,kBs]
   refine TB 6 ?_;refine TB 7 ?_;refine TB 8 ?_;refine TB 9 ?_;refine wpAnyH_done (by kernel_rfl) ?_ _;have bF:=za HB _ hHeld2.1;clear hHeld2 MK HB;go_wp2
   go_ret2
   exact ⟨⟨L,K,q',na,nc,za HNI,z1⟩,bF⟩
end WVfs
end
section
open Go.RowKit Go.Shelf
attribute [local go_sem] Oper.semAt_some
namespace Rng
abbrev Leaf (w0:World):={ x:Nat × Int × List Pl.Nd // Mem.ownM w0 x.1 x.2.2∧Pl.zc7 x.2.2=true }
abbrev leafV {w0:World} (x:Leaf w0):Value:= .agg #[.map (some x.1.1), .int .i64 x.1.2.1]
abbrev ya4 {w0:World} (x:Leaf w0):List Pl.Nd:=x.1.2.2
theorem each_any (q:Option Nat) (m:Int) (v:Value) (w:World):Calls Tryz.prog 124 #[.agg #[.map q, .int .i64 m,v]] w fun e w'=>e= .returned (.func (.func 147) #[] #[.pointer (some ⟨w.heap.size,0,none⟩)])∧w'=w.alloc (.cells #[.map q, .int .i64 m,v] 135):=by
 have hmf:∀ (fn:Fn) (first cap:Array Value) (w:World),(Instr.makeFunc fn first cap).run Tryz.prog w= .ok (.func fn first cap) w:=fun _ _ _ _=>rfl;go_enter Tryz.func124,Tryz.ntmps124
 go_wp2
 go_ret
 exact ⟨rfl,rfl⟩
def EachOk (w0:World) (C:World→Nat→Prop) (R:Nat→Prop) (n:Nat) (L:List Pl.Nd) (K:Pl.Fx) (b:Nat) (w:World):Prop:=
 Seq Fence.wide n Tryz.prog 147 #[.pointer (some ⟨b,0,none⟩)] (fun x:Leaf w0=>#[leafV x]) C R (fun xs=>xs.map ya4=Pl.za8 (.cons L K .nil)) (fun _=>True) (Pl.za8 (.cons L K .nil)).length w
theorem each_leaf (w0:World) (C:World→Nat→Prop) (R:Nat→Prop) (n:Nat) (L:List Pl.Nd) (q:Nat) (m:Int) (a:Option Addr) (cap b:Nat) (w:World)
  (hL:Pl.zc7 L=true) (hq:Mem.ownM w0 q L) (hb:Mem.Blk w b #[.map (some q), .int .i64 m, .slice a 0 cap] 135):EachOk w0 C R n L .nil b w:=fun l J Jx W _ _ hW hJ _ hY h0=>by
 have hbW:Mem.Blk W b #[.map (some q), .int .i64 m, .slice a 0 cap] 135:=hb.call hW;have c0:=hbW.cell 0;have c1:=hbW.cell 1;have c2:=hbW.cell 2;simp only [kA0,kA1,kA2] at c0 c1 c2;have hlt:=hbW.lt;have hlf:=hide (zh4.yc8 .nil (some q) m a cap);simp only [Pl.Fo.len] at hlf;have b1:Below W.heap.size W (W.alloc (.cells #[.func (.yield l) #[] #[]] 256)):=bE0;have hx1:=hbW.call b1;have y1:=Mem.Blk.new W #[.func (.yield l) #[] #[]] 256;have j1:=hJ [] W _ none h0 (Mem.za4 b1 none) (fun r e=>by cases e);have HY:=hide (hY [] ⟨(q,m,L),hq,hL⟩);clear hY hbW h0;refine callsIn_of_wp_marks Tryz.func147 rfl trivial ?_ rfl
 simp only [Tryz.ntmps147,List.size_toArray,List.length_cons,List.length_nil,Nat.reduceAdd,Nat.reduceSub,Array.replicate_succ,Array.replicate_zero,List.push_toArray,List.append_toArray,List.nil_append,List.cons_append]
 gi_wp2_with fail
 refine ⟨trivial,fun h=>(by cases h),?_⟩;refine (callsIn_wide.2 (za hlf _)).mono ?_;rintro e w2 ⟨rfl,b2⟩;simp only [decide_true] at *;have x2:=hx1.call b2;have y2:=y1.call b2;have j2:=hJ [] _ _ none j1 (Mem.za4 b2 none) (fun r e=>by cases e);have c0:=x2.cell 0;have c1:=x2.cell 1;have d0:=y2.cell 0;simp only [kA0,kA1,kA2] at c0 c1 d0;obtain ⟨fn,tmps,assign,body,hy,hR⟩:=za HY w2 j2 (by simp [Pl.za8,Pl.Fx.len]);clear HY j1 j2 x2 y2 hx1 y1 hlf b1 b2 c2
 gi_wp2_with fail
 refine ⟨fun h=>(by cases h),?_⟩;refine hR.mono ?_;rintro e W3 (⟨rfl,hJ3,hk3⟩|⟨rfl,hJx3,hk3⟩)
 ·gi_wp2
  exact ⟨_,results_none rfl _ _ _,⟨_,rfl⟩, .inl ⟨_,(by simp [Pl.za8,Pl.Fx.len]),hJ3⟩⟩
 ·gi_wp2
  exact ⟨_,results_none rfl _ _ _,⟨_,rfl⟩, .inr ⟨_,trivial,hJx3⟩⟩
structure It (w0 Ws:World) (C:World→Nat→Prop) (B l y:Nat) (J:List (Leaf w0)→World→Prop) (Ds:List Nat) (pre:List (Leaf w0)) (W:World):Prop where
 keep:Keep w0 W
 size:B≤W.heap.size
 from_:Ws.heap.size≤W.heap.size
 box:Mem.Blk W y #[.func (.yield l) #[] #[]] 256
 mine:¬C W y
 got:J pre W
 defs:∀D∈Ds,Ws.heap.size≤D∧W.heap[D]? =some (.deferred (some []))
 nodup:Ds.Nodup
theorem It.grown {w0 Ws:World} {C:World→Nat→Prop} {B l y:Nat} {J:List (Leaf w0)→World→Prop} {Ds:List Nat} {pre:List (Leaf w0)} {W W':World} {row:Option Nat} (h:It w0 Ws C B l y J Ds pre W) (hC:Good w0 B C) (hJ:OwnFrom Ws.heap.size J)
  (hw:w0.heap.size≤Ws.heap.size) (g:W.grownBy W' row) (hr:∀r,row=some r→Ws.heap.size≤r∧r∉Ds∧∃o:Obj,W.heap[r]? =some o∧o.isCells=false):It w0 Ws C B l y J Ds pre W':=
 ⟨h.keep.grown g (fun r e=>by have :=(hr r e).1;omega),Nat.le_trans h.size g.size,Nat.le_trans h.from_ g.size,
  h.box.grown g (fun e=>by
   obtain ⟨-, -,o,ho,hc⟩:=hr y e.symm;have h2:W.heap[y]? =some (.cells #[.func (.yield l) #[] #[]] 256 (0,0)):=h.box;rw [h2] at ho;cases ho
   cases hc),
  fun hc=>(hC.step W W' row h.size g (fun r e=>(hr r e).2.2) y hc).elim h.mine (fun h5=>by have :=h.box.lt;omega),
  hJ pre W W' row h.got g (fun r e=>⟨(hr r e).1,(hr r e).2.2⟩),
  fun D hD=>⟨(h.defs D hD).1,(g.block D (Array.getElem?_eq_some_iff.1 (h.defs D hD).2).1 (fun e=>(hr D e.symm).2.1 hD)).trans (h.defs D hD).2⟩,h.nodup⟩
theorem It.alloc {w0 Ws:World} {C:World→Nat→Prop} {B l y:Nat} {J:List (Leaf w0)→World→Prop} {Ds:List Nat} {pre:List (Leaf w0)} {W:World} (h:It w0 Ws C B l y J Ds pre W) (hC:Good w0 B C) (hJ:OwnFrom Ws.heap.size J)
  (hw:w0.heap.size≤Ws.heap.size) (o:Obj):It w0 Ws C B l y J Ds pre (W.alloc o):=h.grown hC hJ hw (World.grownBy_alloc W o none) (fun r e=>by cases e)
theorem It.next {w0 Ws:World} {C:World→Nat→Prop} {R:Nat→Prop} {B l y:Nat} {J:List (Leaf w0)→World→Prop} {Ds:List Nat} {pre pre':List (Leaf w0)} {W W':World} (h:It w0 Ws C B l y J Ds pre W) (hC:Good w0 B C) (hR:∀j,R j→w0.heap.size≤j∧j<Ws.heap.size)
  (k:Kq C R W W') (hj:J pre' W'):It w0 Ws C B l y J Ds pre' W':=by
 have h2:W.heap[y]? =some (.cells #[.func (.yield l) #[] #[]] 256 (0,0)):=h.box;refine ⟨h.keep.kq k (fun j hc=>(hC.rng W h.size j hc).1) (fun j hr=>(hR j hr).1),Nat.le_trans h.size k.size,Nat.le_trans h.from_ k.size,?_,fun hc=>?_,hj,fun D hD=>⟨(h.defs D hD).1,?_⟩,h.nodup⟩
 ·exact k.kept y _ h2 (fun _=>h.mine) (fun e=>by cases e)
 ·rcases k.mine y hc with h3|h3
  ·exact h.mine h3
  ·have :=(Array.getElem?_eq_some_iff.1 h2).1;omega
 ·exact k.kept D _ (h.defs D hD).2 (fun e=>by cases e) (fun _ hr=>by have :=(hR D hr).2;have :=(h.defs D hD).1;omega)
theorem row_drop {w:World} {N:Nat→Prop}:∀ (k:Nat) (F:Pl.Fx) (b i:Nat),Mem.rowX w N F b i→Mem.rowX w N (Pl.zk k F) b (i+3*k):=by
 intro k
 induction k with
 |zero=>intro F b i h;exact h
 |succ k ih=>
  intro F b i h;cases F with
  |nil=>trivial
  |cons L k' m=>have :=ih m b (i+3) h.2;rw [show i+3*(k+1)=i+3+3*k by omega];exact this
def Lp (w0 W:World) (C:World→Nat→Prop) (B l b g cap q:Nat) (mm:Int) (J:List (Leaf w0)→World→Prop) (K:Pl.Fx) (a':Act) (W':World):Prop:=
 ∃ (k:Nat) (Ds:List Nat) (pre:List (Leaf w0)) (u4 u5 u16 u17 u18 u19 u20 u21 u22 u23 u24 u25 u26:Value),k≤K.len∧
  a'={ tmps:=#[.func (.yield l) #[] #[], .pointer (some ⟨b,0,none⟩), .pointer (some ⟨W.heap.size,0,none⟩),undef,u4,u5, .agg #[.map (some q), .int .i64 mm, .slice (some ⟨g,0,none⟩) K.len cap], .bool false,undef,undef,undef,undef, .pointer (some ⟨b,2,none⟩), .slice (some ⟨g,0,none⟩) K.len cap, .int .i64 (K.len:Int), .int .i64 (k:Int),u16,u17,u18,u19,u20,u21,u22,u23,u24,u25,u26],defers:=Ds.map fun D=>{ target:= .collected D,args:=#[] } }∧
  It w0 W C B l W.heap.size J Ds pre W'∧pre.map ya4++Pl.za8 (Pl.zk k K)=Pl.za8 K
def lpM (K:Pl.Fx) (a':Act):Nat:=K.len - (intOf (a'.tmps[15]?.getD undef)).toNat
theorem each_ok (w0:World) (C:World→Nat→Prop) (B:Nat) (hC:Good w0 B C) (m:Nat):∀ (n:Nat) (R:Nat→Prop) (L:List Pl.Nd) (K:Pl.Fx) (q:Nat) (mm:Int) (a:Option Addr) (cap b:Nat) (w:World),K.sz≤m→B≤w.heap.size→(∀j,R j→w0.heap.size≤j)→
  (Pl.Fx.cons L K .nil).okX→Mem.ownM w0 q L→Mem.layX w0 (fun j=>j<w0.heap.size) K (.slice a K.len cap)→Keep w0 w→Mem.Blk w b #[.map (some q), .int .i64 mm, .slice a K.len cap] 135→EachOk w0 C R n L K b w:=by
 induction m with
 |zero=>
  intro n R L K q mm a cap b w hs hB hR hx hm hl hk hb;cases K with
  |nil=>exact each_leaf w0 C R n L q mm a cap b w hx.1 hm hb
  |cons L' k' m'=>simp [Pl.Fx.sz] at hs
 |succ m ih=>
  intro n R L K q mm a cap b w hs hB hR hx hm hl hk hb;by_cases hK0:K.len=0
  ·have e:=Pl.Fx.zt6 hK0;subst e;exact each_leaf w0 C R n L q mm a cap b w hx.1 hm hb
  obtain ⟨a',cap',e1,h2⟩:=hl
  injection e1 with e1 _ e2
  subst e1 e2
  rcases h2 with h2|⟨g,rfl,hcap,hrow⟩
  ·rw [h2] at hK0;exact absurd rfl hK0
  have hK4:K.len≤4:=hx.2.2.1;have hKX:K.okX:=hx.2.2.2.1;intro l J Jx W hRl hRW hW hJ hJx hY h0;have hbW:=hb.call hW;have kW:Keep w0 W:=hk.trans (Keep.of_below hW);have hBW:B≤W.heap.size:=Nat.le_trans hB hW.size;have hR2:∀j,R j→w0.heap.size≤j∧j<W.heap.size:=fun j h=>⟨hR j h,hRW j h⟩;have hlf:=hide (zh4.yc8 K.shape (some q) mm (some ⟨g,0,none⟩) cap);rw [Pl.Fx.zv1,show decide (K.len=0)=false from decide_eq_false hK0] at hlf;have b1:Below W.heap.size W (W.alloc (.cells #[.func (.yield l) #[] #[]] 256)):=bE0;have c0:=hbW.cell 0;have c1:=hbW.cell 1;have c2:=hbW.cell 2;simp only [kA0,kA1,kA2] at c0 c1 c2;have hlt:=hbW.lt;have hx1:=hbW.call b1
  have t1:It w0 W C B l W.heap.size J [] [] (W.alloc (.cells #[.func (.yield l) #[] #[]] 256)):=by
   have g1:=World.grownBy_alloc W (.cells #[.func (.yield l) #[] #[]] 256) none;exact ⟨kW.grown g1 (fun r e=>by cases e),by simp;omega,by simp,Mem.Blk.new _ _ _,fun hc=>hC.typ _ _ _ _ hBW (Mem.Blk.new W _ _) (by decide) hc,hJ [] W _ none h0 g1 (fun r e=>by cases e),(fun D hD=>by cases hD),List.nodup_nil⟩
  have HRW:=hide hrow;have HY:=hide hY;have hN:Pl.za8 (.cons L K .nil)=Pl.za8 K:=by rw [Pl.za8,if_neg hK0,Pl.za8,List.append_nil]
  have HN:=hide hN;clear hN;clear hrow hY h0 hbW hb;refine callsIn_of_wp_marks Tryz.func147 rfl trivial ?_ rfl;simp only [Tryz.ntmps147,List.size_toArray,List.length_cons,List.length_nil,Nat.reduceAdd,Nat.reduceSub,Array.replicate_succ,Array.replicate_zero,List.push_toArray,List.append_toArray,List.nil_append,List.cons_append]
  gi_wp2_with fail
  refine ⟨trivial,fun h=>(by cases h),?_⟩;refine (callsIn_wide.2 (za hlf _)).mono ?_;rintro e w2 ⟨rfl,b2⟩;have x2:=hx1.call b2;have t2:It w0 W C B l W.heap.size J [] [] w2:=t1.grown hC hJ kW.size (Mem.za4 b2 none) (fun r e=>by cases e);have c0:=x2.cell 0;have c1:=x2.cell 1;have c2:=x2.cell 2;simp only [kA0,kA1,kA2] at c0 c1 c2;have T2:=hide t2;clear t1 t2 x2 hx1 hlf b1 b2
  gi_wp2_with fail
  have H0:Lp w0 W C B l b g cap q mm J K { tmps:=#[.func (.yield l) #[] #[], .pointer (some ⟨b,0,none⟩), .pointer (some ⟨W.heap.size,0,none⟩),undef,undef,undef, .agg #[.map (some q), .int .i64 mm, .slice (some ⟨g,0,none⟩) K.len cap], .bool false,undef,undef,undef,undef, .pointer (some ⟨b,2,none⟩), .slice (some ⟨g,0,none⟩) K.len cap, .int .i64 (K.len:Int), .int .i64 0,undef,undef,undef,undef,undef,undef,undef,undef,undef,undef,undef],defers:=[] } w2:=
   ⟨0,[],[],_,_,_,_,_,_,_,_,_,_,_,_,_,Nat.zero_le _,rfl,za T2,rfl⟩
  clear T2 c0 c1 c2;refine wpIn_loop (Lp w0 W C B l b g cap q mm J K) (fun a' _=>lpM K a') H0 (fun a' W' hr=>?_);clear H0;generalize hKx:(fun a'' w''=>Lp w0 W C B l b g cap q mm J K a'' w''∧lpM K a''<lpM K a')=Kx;obtain ⟨k,Ds,pre,u4,u5,u16,u17,u18,u19,u20,u21,u22,u23,u24,u25,u26,hk,rfl,hI,hpl⟩:=hr
  have HKx:Hid (∀ (k':Nat) (Ds':List Nat) (pre':List (Leaf w0)) (u4 u5 u16 u17 u18 u19 u20 u21 u22 u23 u24 u25 u26:Value) (W'':World),k'≤K.len→k<k'→It w0 W C B l W.heap.size J Ds' pre' W''→pre'.map ya4++Pl.za8 (Pl.zk k' K)=Pl.za8 K→
    Kx { tmps:=#[.func (.yield l) #[] #[], .pointer (some ⟨b,0,none⟩), .pointer (some ⟨W.heap.size,0,none⟩),undef,u4,u5, .agg #[.map (some q), .int .i64 mm, .slice (some ⟨g,0,none⟩) K.len cap], .bool false,undef,undef,undef,undef, .pointer (some ⟨b,2,none⟩), .slice (some ⟨g,0,none⟩) K.len cap, .int .i64 (K.len:Int), .int .i64 (k':Int),u16,u17,u18,u19,u20,u21,u22,u23,u24,u25,u26],defers:=Ds'.map fun D=>{ target:= .collected D,args:=#[] } } W''):=fun k' Ds' pre' u4 u5 u16 u17 u18 u19 u20 u21 u22 u23 u24 u25 u26 W'' h1 h2 h3 h4=>by
   rw [←hKx];exact ⟨⟨k',Ds',pre',u4,u5,u16,u17,u18,u19,u20,u21,u22,u23,u24,u25,u26,h1,rfl,h3,h4⟩,by simp [lpM,intOf];omega⟩
  clear hKx;by_cases hlt:k<K.len
  ·obtain ⟨L',k',m',hdr⟩:∃L' k' m',Pl.zk k K= .cons L' k' m':=by
    have :=Pl.drop_len k K;cases hd:Pl.zk k K with
    |nil=>rw [hd] at this;simp [Pl.Fx.len] at this;omega
    |cons L' k' m'=>exact ⟨L',k',m',rfl⟩
   have hrw:=row_drop k K g 0 (za HRW);rw [hdr] at hrw;obtain ⟨⟨q',a',cap',e1,e2,e3,e4,e5,e6,e7,e8⟩, -⟩:=hrw;rw [show 0+3*k=k*3 by omega] at e1 e2 e3;have kI:=hI.keep;have d0:=(kI.cell (p:=⟨g,k*3,none⟩) e4).trans e1;have d1:=(kI.cell (p:=⟨g,k*3+1,none⟩) e4).trans e2;have d2:=(kI.cell (p:=⟨g,k*3+2,none⟩) e4).trans e3;have y1:(k:Int)<(K.len:Int):=by omega
   have hix:0≤(k:Int)∧(k:Int)<(K.len:Int):=by omega
   have hokd:=Pl.drop_ok (n:=k) hKX;rw [hdr] at hokd;have hszd:=Pl.drop_sz hdr;have HE:=hide (⟨e7,e8⟩:_∧_);have HI:=hide hI;clear e1 e2 e3 e7 e8 hI kI
   gi_wp2_with fail
   refine ⟨trivial,fun h=>(by cases h),?_⟩;refine (callsIn_wide.2 (each_any _ _ _ _)).mono ?_;rintro e w3 ⟨rfl,hw3⟩;have z1:(W'.alloc (.cells #[.map (some q'), .int .i64 (k'.len:Int), .slice a' k'.len cap'] 135)).heap.size=W'.heap.size+1:=by simp
   rw [z1];have i3:It w0 W C B l W.heap.size J Ds pre w3:=by rw [hw3];exact ((za HI).alloc hC hJ kW.size _).alloc hC hJ kW.size _
   have z3:w3.heap.size=W'.heap.size+2:=by rw [hw3];simp
   have x3:Mem.Blk w3 (W'.heap.size+1) #[.map (some q'), .int .i64 (k'.len:Int), .slice a' k'.len cap'] 135:=by rw [hw3];exact Mem.zh9 _ _ _
   have hn3:K.sz≤m+1:=hs;have SQ:=hide (ih (n - 1) (fun j=>R j∨j=w3.heap.size+1) L' k' q' (k'.len:Int) a' cap' (W'.heap.size+1) w3 (by omega) i3.size (fun j h=>h.elim (fun h=>hR j h) (fun h=>by have :=i3.keep.size;omega)) ⟨hokd.1,hokd.2.1,hokd.2.2.1,hokd.2.2.2.1,trivial⟩ (za HE).1 ⟨a',cap',rfl,(za HE).2⟩ i3.keep x3);have hR3:∀j,R j→j<w3.heap.size:=fun j h=>by have :=(hR2 j h).2;have :=i3.from_;omega
   have hlenP:pre.length+(Pl.za8 (.cons L' k' .nil)).length≤(Pl.za8 (.cons L K .nil)).length:=by
    rw [za HN,←hpl,hdr,List.length_append,List.length_map,Pl.za8,Pl.za8,Pl.za8,List.length_append,List.length_append];simp
   have HLN:=hide hlenP;have I3:=hide i3;have Z3:=hide z3;clear z1 hw3 HI i3 z3 x3 d0 d1 d2 hlenP
   gi_wp2_with fail
   refine range rfl (fun h=>(by cases h)) (gf:=147) (lb:=#[.pointer (some ⟨W'.heap.size+1,0,none⟩)]) rfl trivial (enters_of Tryz.func147 (by kernel_rfl) rfl) (C:=C) (R:=R) (za SQ) (Below.refl _ _) (fun _=>rfl) (hC.step.up (za I3).size) hR3
    (fun xs W''=>It w0 W C B l W.heap.size J Ds (pre++xs) W'')
    (fun c xs W''=>c= .ret∧It w0 W C B l W.heap.size Jx Ds (pre++xs) W'')
    (fun xs A A' row h g hr=>h.grown hC hJ kW.size g (fun r e=>⟨by have :=(hr r e).1;have :=(za I3).from_;omega,fun hD=>by have :=(hr r e).1;have :=(Array.getElem?_eq_some_iff.1 ((za I3).defs r hD).2).1;omega,(hr r e).2⟩))
    (fun c xs A A' row h g hr=>⟨h.1,h.2.grown hC hJx kW.size g (fun r e=>⟨by have :=(hr r e).1;have :=(za I3).from_;omega,fun hD=>by have :=(hr r e).1;have :=(Array.getElem?_eq_some_iff.1 ((za I3).defs r hD).2).1;omega,(hr r e).2⟩)⟩)
    (by rw [List.append_nil];exact za I3)
    (fun x a'' W''=>∃Bx,Mem.Blk W'' Bx #[.map (some x.1.1), .int .i64 x.1.2.1] 132∧a''={ tmps:=#[.func (.yield l) #[] #[], .pointer (some ⟨b,0,none⟩), .pointer (some ⟨W.heap.size,0,none⟩),undef, .pointer (some ⟨W'.heap.size,0,none⟩), .pointer (some ⟨Bx,0,none⟩), .agg #[.map (some q), .int .i64 mm, .slice (some ⟨g,0,none⟩) K.len cap], .bool false,undef,undef,undef,undef, .pointer (some ⟨b,2,none⟩), .slice (some ⟨g,0,none⟩) K.len cap, .int .i64 (K.len:Int), .int .i64 (k:Int), .bool true, .pointer (some ⟨g,k*3,none⟩), .agg #[.map (some q'), .int .i64 (k'.len:Int), .slice a' k'.len cap'], .agg #[.map (some q'), .int .i64 (k'.len:Int), .slice a' k'.len cap'], .func (.func 147) #[] #[.pointer (some ⟨W'.heap.size+1,0,none⟩)], .agg #[.map (some x.1.1), .int .i64 x.1.2.1],u22,u23,u24,u25,u26],defers:=[] })
    (fun x a'' _ A A' row h g hr=>by
     obtain ⟨Bx,h1,h2⟩:=h;refine ⟨Bx,h1.grown g (fun e=>?_),h2⟩;obtain ⟨o,ho,hc⟩:=(hr Bx e.symm).2;have h3:A.heap[Bx]? =some (.cells #[.map (some x.1.1), .int .i64 x.1.2.1] 132 (0,0)):=h1;rw [h3] at ho;cases ho
     cases hc) ?assign ?body ?done ?stop
   case assign=>
    intro l' xs x W'' Kz hI hz hK
    gi_wp2
    exact hK _ _ (Kq.alloc hC.step hI.size _) (hI.alloc hC hJ kW.size _) ⟨W''.heap.size,Mem.Blk.new _ _ _,rfl⟩
   case body=>
    rintro l' xs x a'' W'' hI ⟨Bx,hx,rfl⟩ hlen hz;have y0:=hI.box.cell 0;have x0:=hx.cell 0;have x1:=hx.cell 1;simp only [kA0,kA1,kA2] at y0 x0 x1;obtain ⟨fn,tmps,assign,body,hy,hR'⟩:=yield_any (F:=Fence.wide) rfl (n - 1 - 1 - 1) (za HY (pre++xs) x W'' hI.got (by have :=za HLN;rw [List.length_append];omega));have HI:=hide hI;clear hI hx
    gi_wp2_with fail
    refine ⟨fun h=>(by cases h),?_⟩;refine hR'.mono ?_;rintro e W3 (⟨rfl,hJ3,hk3⟩|⟨rfl,hJx3,hk3⟩)
    ·have n3:=hide ((za HI).next hC hR2 hk3 hJ3)
     gi_wp2
     exact ⟨hk3,by show It w0 W C B l W.heap.size J Ds (pre++(xs++[x])) W3;rw [←List.append_assoc];exact za n3⟩
    ·have hI4:=(za HI)
     have n3:It w0 W C B l W.heap.size Jx Ds (pre++(xs++[x])) W3:=by
      have n4:=It.next (J:=fun ys Z=>J ys Z∨Jx ys Z) ⟨hI4.keep,hI4.size,hI4.from_,hI4.box,hI4.mine, .inl hI4.got,hI4.defs,hI4.nodup⟩ hC hR2 hk3 (.inr hJx3);rw [←List.append_assoc];exact ⟨n4.keep,n4.size,n4.from_,n4.box,n4.mine,hJx3,n4.defs,n4.nodup⟩
     have N3:=hide n3;clear n3 hI4
     gi_wp2
     exact ⟨hk3,rfl,za N3⟩
   case done=>
    rintro D xs W'' hD hS hI hdef;have hnD:D∉Ds:=fun h=>by have :=(Array.getElem?_eq_some_iff.1 ((za I3).defs D h).2).1;omega
    have n3:It w0 W C B l W.heap.size J (D::Ds) (pre++xs) W'':=⟨hI.keep,hI.size,hI.from_,hI.box,hI.mine,hI.got,fun E hE=>by
     rcases List.mem_cons.1 hE with rfl |hE
     ·exact ⟨by have :=(za I3).from_;omega,hdef⟩
     ·exact hI.defs E hE,List.nodup_cons.2 ⟨hnD,hI.nodup⟩⟩
    have hl3:(pre++xs).map ya4++Pl.za8 (Pl.zk (k+1) K)=Pl.za8 K:=by
     rw [List.map_append,hS];exact Pl.drop_leaves hdr _ hpl
    have HF:=hide (za HKx (k+1) (D::Ds) (pre++xs));have N3:=hide n3;have L3:=hide hl3;clear n3 hl3 hI HKx
    gi_wp2
    exact za HF _ _ _ _ _ _ _ _ _ _ _ _ _ _ (by omega) (by omega) (za N3) (za L3)
   case stop=>
    rintro D c xs W'' hD _ ⟨rfl,hI⟩ hdef;have hnD:D∉Ds:=fun h=>by have :=(Array.getElem?_eq_some_iff.1 ((za I3).defs D h).2).1;omega
    have HI:=hide hI;clear hI
    gi_wp2
    refine leave (fun Z=>Jx (pre++xs) Z) (fun Z hZ=>⟨_,results_none rfl _ _ _,⟨_,rfl⟩, .inr ⟨_,trivial,hZ⟩⟩) (D::Ds) W'' (List.nodup_cons.2 ⟨hnD,(za HI).nodup⟩) (fun E hE=>?_) (za HI).got (fun E hE Z hZ hd=>?_)
    ·rcases List.mem_cons.1 hE with rfl |hE
     ·exact hdef
     ·exact ((za HI).defs E hE).2
    ·refine hJx.putObj _ hZ ?_ hd rfl
     rcases List.mem_cons.1 hE with rfl |hE
     ·have :=(za I3).from_;omega
     ·exact ((za HI).defs E hE).1
  ·obtain rfl:k=K.len:=by omega
   have y1:¬ ((K.len:Int)<(K.len:Int)):=by omega
   have HI:=hide hI
   have hS:pre.map ya4=Pl.za8 (.cons L K .nil):=by
    have h2:Pl.zk K.len K= .nil:=Pl.Fx.zt6 (by rw [Pl.drop_len];omega);rw [h2,Pl.za8,List.append_nil] at hpl;rw [za HN,hpl]
   have HS:=hide hS;clear hI hS hpl HKx
   gi_wp2
   refine leave (fun Z=>J pre Z) (fun Z hZ=>⟨_,results_none rfl _ _ _,⟨_,rfl⟩, .inl ⟨_,za HS,hZ⟩⟩) Ds W' (za HI).nodup (fun E hE=>((za HI).defs E hE).2) (za HI).got (fun E hE Z hZ hd=>hJ.putObj _ hZ ((za HI).defs E hE).1 hd rfl)
end Rng
end
section
open Go.RowKit Go.Maps
namespace MapN
theorem keyOf_inv {p:ByteArray} {kl:Lit} (h:keyOf Tryz.prog 9 (.string p)=some kl):kl=key p:=by
 simp [keyOf,Tryz.underlying9,mapKey] at h
 rw [←h.2];rfl
structure Reads (D:DataW Unit) (C:List Pl.Nd):Prop where
 has:∀n∈C,Maps.has D (key n.path)=true
 ent:∀ (p:ByteArray) (c:Pl.Nd),(∀z,D.atKey (key p) z=dat c)→c∈C∧p=c.path
structure Got (C T:List Pl.Nd) (left:Lit→Bool):Prop where
 sub:∀t∈T,t∈C
 apart:T.Pairwise (fun a b=>a.path≠b.path)
 seen:∀t∈T,left (key t.path)=false
 all:∀n∈C,left (key n.path)=false→n∈T
theorem got_start {C:List Pl.Nd} {D:DataW Unit} (hD:Reads D C):Got C [] (Maps.has D):=
 ⟨fun t h=>absurd h (by simp),List.Pairwise.nil,fun t h=>absurd h (by simp),fun n hn h=>by rw [hD.has n hn] at h;cases h⟩
theorem one_apart {C:List Pl.Nd} (h:C.Pairwise (fun a b=>a.path≠b.path)) {a b:Pl.Nd} (ha:a∈C) (hb:b∈C) (e:a.path=b.path):a=b:=by
 induction h with
 |nil=>cases ha
 |cons h1 _ ih=>
  rcases List.mem_cons.1 ha with ha1|ha1
  ·rcases List.mem_cons.1 hb with hb1|hb1
   ·rw [ha1,hb1]
   ·exact absurd (ha1 ▸ e) (h1 _ hb1)
  ·rcases List.mem_cons.1 hb with hb1|hb1
   ·exact absurd (hb1 ▸ e).symm (h1 _ ha1)
   ·exact ih ha1 hb1
theorem entry_in {C:List Pl.Nd} {p:ByteArray} {c:Pl.Nd} (hC:C.Pairwise (fun a b=>a.path≠b.path)) (h:∀z,(mapOf C).atKey (key p) z=dat c):c∈C∧p=c.path:=by
 by_cases hp:∃n∈C,n.path=p
 ·obtain ⟨n,hn,rfl⟩:=hp;have e:=(zz8 hC hn).2 (dat c);rw [h] at e;have e2:=zt7 e;subst e2;exact ⟨hn,rfl⟩
 ·exfalso;have hm:∀n∈C,n.path≠p:=fun n hn e=>hp ⟨n,hn,e⟩;have h1:=(zm1 p C (.map []) hm).2;have a:∀z,dat c=z:=fun z=>by rw [←h z];exact h1 z
  have a1:=a (dat ⟨p,c.kind+1,p,0,0⟩);have a2:=zt7 a1;have a3:=congrArg Pl.Nd.kind a2;simp only at a3;omega
theorem yi2 {C:List Pl.Nd} (hC:C.Pairwise (fun a b=>a.path≠b.path)):Reads (mapOf C) C:=⟨fun _ hn=>(zz8 hC hn).1,fun _ _ h=>entry_in hC h⟩
theorem got_step {C T:List Pl.Nd} {left:Lit→Bool} {c:Pl.Nd} (hC:C.Pairwise (fun a b=>a.path≠b.path)) (h:Got C T left) (hc:c∈C) (hl:left (key c.path)=true):Got C (T++[c]) (fun z=>left z&&!z.sameKey (key c.path)):=by
 have same:(key c.path).sameKey (key c.path)=true:=by simp [key,Lit.sameKey]
 refine ⟨fun t ht=>?_,?_,fun t ht=>?_,fun n hn hf=>?_⟩
 ·rcases List.mem_append.1 ht with ht|ht
  ·exact h.sub t ht
  ·simp at ht;subst ht;exact hc
 ·rw [List.pairwise_append];refine ⟨h.apart,List.pairwise_singleton _ _,fun a ha b hb e=>?_⟩;simp at hb;subst hb
  have :=h.seen a ha;rw [e,hl] at this;cases this
 ·rcases List.mem_append.1 ht with ht|ht
  ·show (left (key t.path)&&_)=false;rw [h.seen t ht];rfl
  ·simp at ht;subst ht
   show (left (key t.path)&&!(key t.path).sameKey (key t.path))=false;rw [same];simp
 ·by_cases e:n.path=c.path
  ·rw [one_apart hC hn hc e];simp
  ·refine List.mem_append.2 (.inl (h.all n hn ?_));have hs:=sameKey_ne (key_ne e);have hf':(left (key n.path)&&!(key n.path).sameKey (key c.path))=false:=hf;rw [hs] at hf'
   simpa using hf'
theorem got_end {C T:List Pl.Nd} {left:Lit→Bool} (hC:C.Pairwise (fun a b=>a.path≠b.path)) (h:Got C T left) (hl:∀k,left k=false):T.Perm C:=by
 refine (List.perm_ext_iff_of_nodup (h.apart.imp (fun {a b} hne e=>hne (by rw [e]))) (hC.imp (fun {a b} hne e=>hne (by rw [e])))).2 fun x=>⟨h.sub x,fun hx=>h.all x hx (hl _)⟩
end MapN
end
section
open Go.RowKit Go.Maps
namespace MapN
theorem size_fold:∀ (C:List Pl.Nd) (D:DataW Unit),Tidy D→C.Pairwise (fun a b=>a.path≠b.path)→(∀n∈C,Maps.has D (key n.path)=false)→Maps.size (C.foldl (fun D n=>D.put (key n.path) (dat n)) D)=Maps.size D+C.length:=by
 intro C
 induction C with
 |nil=>intro D _ _ _;rfl
 |cons n C ih=>
  intro D hD hp hn;have hp':=List.pairwise_cons.1 hp;rw [List.foldl_cons,ih _ (hD.put (ya1 _) _) hp'.2 (fun m hm=>by rw [has_put_other (key_ne (fun e=>hp'.1 m hm e.symm))];exact hn m (List.mem_cons_of_mem _ hm)),size_put hD,if_neg (by rw [hn n List.mem_cons_self];simp),List.length_cons];omega
theorem size_mapOf {C:List Pl.Nd} (h:C.Pairwise (fun a b=>a.path≠b.path)):Maps.size (mapOf C)=C.length:=by
 have :=size_fold C (.map []) tidy_empty h (fun _ _=>rfl);rw [mapOf,this];show 0+_=_;omega
end MapN
end
section
open Go.RowKit
namespace zh0
theorem base_any (s:ByteArray) (w:World) (hs:s.size≤1048576):
  Calls Tryz.prog 126 #[.string s] w fun e w'=>e= .returned (.string (Pl.glue ((Pl.za6 s).drop ((Pl.za6 s).length - 1))))∧Below w.heap.size w w':=by
 have hn:=hide (zu6.any s w hs);have hL:=hide (Pl.ze s);generalize Pl.za0 s=r at hn;generalize Pl.za6 s=L at hn hL;go_enter Tryz.func126,Tryz.ntmps126
 go_wp2_with fail
 refine (za hn).mono ?_;rintro e w1 ⟨v,rfl,hown,hb⟩;clear hn
 rcases Mem.texts hown with ⟨rfl,rfl⟩|⟨g,cap,rfl,hcap,hm,hgb,hgl,hcell⟩
 ·clear hown;go_wp2_with fail
  refine (zk3.any _ [] _ (by simp) (by decide) (.inl ⟨rfl,rfl⟩)).mono ?_;rintro e w2 ⟨rfl,hb2⟩;have hb3:=hb.trans (hb2.mono hb.size);clear hb hb2;go_wp2
  go_ret
  exact ⟨rfl,hb3⟩
 ·clear hown;have hm2:=hm;have HC:=hide hcell;clear hcell;unfold maxLen at hm2;by_cases h0:L.length=0
  ·obtain rfl:L=[]:=List.eq_nil_of_length_eq_zero h0;have m0:max (-1:Int) 0=0:=by decide
   go_wp2_with fail
   refine (zk3.any _ [] _ (by simp) (by decide) (.inr ⟨g,0,cap,rfl,hgl,fun j t h=>by simp at h⟩)).mono ?_;rintro e w2 ⟨rfl,hb2⟩;have hb3:=hb.trans (hb2.mono hb.size);clear hb hb2;go_wp2
   go_ret
   exact ⟨rfl,hb3⟩
  ·have h1:(0:Int)≤(L.length:Int) - 1:=by omega
   have m1:max ((L.length:Int) - 1) 0=(L.length:Int) - 1:=by omega
   have h2:(L.length:Int) - 1≤(L.length:Int):=by omega
   have h3:cap≠L.length - 1:=by omega
   go_wp2_with fail
   refine (zk3.any _ (L.drop (L.length - 1)) _ ?_ (Pl.zp9 (Pl.all_drop (za hL).1 _) ?_) (Mem.yi5 hgl (za HC) _)).mono ?_
   ·have :=(za hL).2;simp;omega
   ·have :=(za hL).2;simp;omega
   rintro e w2 ⟨rfl,hb2⟩;have hb3:=hb.trans (hb2.mono hb.size);clear hb hb2;go_wp2
   go_ret
   exact ⟨rfl,hb3⟩
end zh0
end
end Go.Proofs.YtbomeifgfalmdaaGreatDoor
