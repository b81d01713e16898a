/- Several texts of one claim in one file: MapLookI, WSpNest, WVfs2, WVfs3, MemRes, WVfs4, WSpI2, WSpI14, WBothI. -/
import Derived.Test.YtgdjjncmocppeaaGreatDoorG20
import Derived.Test.YtgdjjncmocppeaaGreatDoorWWkI
import Derived.Test.YtgdjjncmocppeaaGreatDoorG27
namespace Go.Proofs.YtgdjjncmocppeaaGreatDoor
section
open Go.RowKit Go.Maps
namespace MapI
theorem look_no {P:Program} (w:World) {ops:Array Oper} {rest:List Oper} {o:Oper} {a:Act} {Q:Exit→Act→World→Prop} (hg:o.guard=none) (m x:Operand) (t:TypeId) (hop:o.op=Op.lookup t m x false)
  (k e:TypeId) (K:Keyed P k) (ht:P.underlying t=some (.map k e)) (z:Value) (hz:(zeroValue e).run P w= .ok z w) (b n:Nat) (D:DataW Value)
  (hm:a.eval m= .map (some b)) (hown:w.ownsMap P k elem b n D) (kv:Value) (kl:Lit) (hx:a.eval x=kv) (hkey:keyOf P k kv=some kl) (v:Value) (hat:D.atKey kl (dat z)=dat v)
  (hK:wpList P ops Q rest (a.put o.dst v) w):
  wpList P ops Q (o::rest) a w:=by
 refine wpList_plain hg fun K' hK'=>?_;obtain ⟨v1,ps,hrun,hv⟩:=hown.lookup K ht hz (zt6 _) hkey
 have hd:v1=v:=by
  unfold elem at hv;simp only [Option.some.injEq,Prod.mk.injEq] at hv;rw [hat] at hv;exact zx6 hv.1
 subst hd;unfold Oper.wp;simp [execOp,hop,hm,hx,hrun,Result.andThen]
 exact hK' _ _ hK
end MapI
end
section
open Go.RowKit Go.Maps
namespace WSpI
theorem nest_is {w:World} {B:Nat} {y:Pl.Nv} {R:List (Int × List Pl.Nd)} (h:Mem.zi3 w B y R) (hr:(Pl.nest (Pl.rowO R)).isSome=true):∃L k q,y.m=some q∧y.n=k.len∧Mem.ownM w q L∧Mem.layX w (fun b=>b<w.heap.size) k (.slice y.a k.len y.cap)∧(Pl.Fx.cons L k .nil).okX∧Pl.nestX R=some (L,k):=by
 obtain ⟨L,k,q,h1,h2,⟨-,h5⟩,⟨h6,h7⟩,h8⟩:=h;refine ⟨L,k,q,h1,h2,h5,Mem.zw1 h8 (fun b _ hb=>hb),h6,?_⟩;cases hF:Pl.nest (Pl.rowO R) with
 |none=>rw [hF] at hr;cases hr
 |some F=>
  have e1:=(Pl.ya1 hF).2.1;have e2:=Pl.take_flat (Pl.Fx.cons L k .nil) [] h6;rw [List.append_nil,h7] at e2;have e3:(Pl.Fx.cons L k .nil).len=1:=rfl;rw [e3,e1] at e2
  injection e2 with e2
  injection e2 with e2 _
  injection e2 with e2 _
  exact Pl.yg (by rw [hF,e2]) h7
end WSpI
end
section
open Go.RowKit Go.Maps
namespace WVfs
theorem join1 (t:ByteArray) (b:Nat) (T:TypeId) (w:World) (ht:t.size≤1048576) (hv:Mem.Blk w b #[.string t] T):
  Calls Tryz.prog 90 #[.slice (some ⟨b,0,none⟩) 1 1] w fun e w'=>e= .returned (.string t)∧Below w.heap.size w w':=by
 have h:=WJoin.any b 0 1 [t] w (by simp) (by rw [Pl.tot_one];omega) (fun j u hj=>by
  match j,hj with
  |0,hj=>simp at hj;subst hj;exact hv.cell 0
  |j+1,hj=>simp at hj) hv.lt
 rw [Pl.cat_one,show (⟨t.data.toList.toArray⟩:ByteArray)=t by simp] at h;exact h
def Found (q:ByteArray) (o:Option Pl.Nd) (e:Ending):Prop:=
 ((q.size=0∨∃n,o=some n∧n.kind=1)∧∃m n v p,e= .returned (.tuple #[.iface 175 (.agg #[.map m, .int .i64 n,v, .string p]), .nilIface]))∨
 (¬q.size=0∧o=none∧e= .returned (.tuple #[.nilIface,fault 6]))∨
 (¬q.size=0∧∃n,o=some n∧n.kind=2∧e= .returned (.tuple #[.iface 124 (.agg #[.string n.data, .int .i64 n.time]), .nilIface]))
set_option linter.unusedSimpArgs false in
set_option maxRecDepth 100000 in
set_option maxHeartbeats 2000000 in
theorem find_any (s:Pl.Sp) (q:Nat) (E:List (Int × Pl.Nv)) (sa ta:Option Addr) (sc tc B:Nat) (d:Int) (RT:ByteArray) (w:World) (hG:SpO.SpV B w s q E sa sc ta tc) (hrise:(s.N.map (·.d)).Pairwise (· < ·)) (x:Pl.Ns) (k:Nat) (hx:s.N[k]? =some x) (hxd:x.d=d) (hi:MapI.i64 d) (hr:(Pl.nest (Pl.rowO (x.Is.map Pl.It.r))).isSome=true) (hp:Pl.za0 RT=true):
  Calls Tryz.prog 58 #[.agg #[.map (some q), .slice sa s.M.length sc, .slice ta s.H.length tc, .int .i64 s.next, .int .i64 d, .string RT]] w fun e w'=>Found RT (Pl.zi (x.Is.map Pl.It.r) RT) e∧Below w.heap.size w w':=by
 have HKN:=hide (fun hz n h=>Pl.walkV_kind hr hp (n:=n) hz h);have b0:Below w.heap.size w (w.alloc (.cells #[.map (some q), .slice sa s.M.length sc, .slice ta s.H.length tc, .int .i64 s.next, .int .i64 d, .string RT] 69)):=bE0;have V0:=Mem.Blk.new w #[.map (some q), .slice sa s.M.length sc, .slice ta s.H.length tc, .int .i64 s.next, .int .i64 d, .string RT] 69;have G0:=hG.call b0;have hnv:=SpO.nest_of G0.nests G0.ids (hrise.imp (fun h=>by omega)) hx;have hLK:=(Pl.zw3 (E:=E) (by have :=hG.ids;have h2:(E.map (·.1)).Pairwise (· < ·):=(by rw [this];exact hrise);exact (List.pairwise_map.1 h2).imp (fun h=>by omega)) d).2;have HMO:=hide G0.mo;rw [hxd] at hnv;generalize Pl.getN E d=nv at hnv hLK;obtain ⟨L,K,q',h1,h2,h3,h4,h5,h6⟩:=WSpI.nest_is hnv hr;obtain ⟨nm,nn,na,nc⟩:=nv;simp only at h1 h2 h4;subst h1 h2;have HAT:=hide hLK
 have HWV:Hid (Pl.zi (x.Is.map Pl.It.r) RT=Pl.zf2 L K RT):=hide (by unfold Pl.zi;rw [h6]);generalize Pl.zi (x.Is.map Pl.It.r) RT=o at HKN HWV ⊢;have bN:Below (w.alloc (.cells #[.map (some q), .slice sa s.M.length sc, .slice ta s.H.length tc, .int .i64 s.next, .int .i64 d, .string RT] 69)).heap.size (w.alloc (.cells #[.map (some q), .slice sa s.M.length sc, .slice ta s.H.length tc, .int .i64 s.next, .int .i64 d, .string RT] 69)) ((w.alloc (.cells #[.map (some q), .slice sa s.M.length sc, .slice ta s.H.length tc, .int .i64 s.next, .int .i64 d, .string RT] 69)).alloc (.cells #[.map (some q'), .int .i64 K.len, .slice na K.len nc] 171)):=bE0;have b1:=b0.trans (bN.mono b0.size);have V1:=V0.call bN
 have X1:=Mem.Blk.new (w.alloc (.cells #[.map (some q), .slice sa s.M.length sc, .slice ta s.H.length tc, .int .i64 s.next, .int .i64 d, .string RT] 69)) #[.map (some q'), .int .i64 K.len, .slice na K.len nc] 171;have HW:=hide (WWk.walk_any K.shape.depth K L q' (K.len:Int) (.slice na K.len nc) RT _ (Nat.le_refl _) h5.2.2.1 h5.2.2.2.1 h5.1 (h3.call bN) (Mem.zw1 (Mem.zr9 h4 bN) (fun b _ hb=>hb)) hp);have hkey:=MapI.zl8 hi;have a0:=V0.cell 0;have a4:=V0.cell 4;have v5:=V1.cell 5;obtain ⟨x0,x1,x2⟩:=jc3 X1;simp only [kGs] at a0 a4 v5;have KV:=hide V1;have KX:=hide X1;have KB:=hide b1;clear hG hnv hLK h3 h4 h5 h6 G0 V0 b0 b1 V1 X1 bN hrise;go_enter Tryz.func58,Tryz.ntmps58
 go_wp2_with (at_lookup;refine MapI.look_no _ rfl _ _ 65 rfl 2 171 MapI.law Tryz.underlying65 _ (Pl.zu5 _) q 12 _ rfl (za HMO) _ _ rfl hkey _ (za HAT) ?_)
 have hq2:((w.alloc (.cells #[.map (some q), .slice sa s.M.length sc, .slice ta s.H.length tc, .int .i64 s.next, .int .i64 d, .string RT] 69)).alloc (.cells #[.map (some q'), .int .i64 K.len, .slice na K.len nc] 171)).heap.size=w.heap.size+2:=by simp
 rw [show (w.alloc (.cells #[.map (some q), .slice sa s.M.length sc, .slice ta s.H.length tc, .int .i64 s.next, .int .i64 d, .string RT] 69)).heap.size=w.heap.size+1 by simp] at KX;generalize (w.alloc (.cells #[.map (some q), .slice sa s.M.length sc, .slice ta s.H.length tc, .int .i64 s.next, .int .i64 d, .string RT] 69)).alloc (.cells #[.map (some q'), .int .i64 K.len, .slice na K.len nc] 171)=w2 at HW KV KX KB hq2 ⊢;clear a0 a4 v5 x0 x1 x2;refine (za HW).mono ?_;rintro e w3 ⟨⟨⟨np,nk,nd,nt,nm⟩,b,rfl,hO⟩,b3⟩;have hO2:=(za HWV).trans hO;clear HW HWV hO HMO HAT;have b4:Below w3.heap.size w3 (w3.alloc (.cells #[.string np, .int .i64 nk, .string nd, .int .i64 nt, .int .i64 0] 56)):=bE0;have bb:=b3.trans (b4.mono b3.size);have V4:=(za KV).call bb;have X4:=(za KX).call bb
 have B4:=hide ((za KB).trans (bb.mono (za KB).size));have N4:=Mem.Blk.new w3 #[.string np, .int .i64 nk, .string nd, .int .i64 nt, .int .i64 0] 56;have v5:=V4.cell 5;obtain ⟨x0,x1,x2⟩:=jc3 X4;have n1:=N4.cell 1;have n2:=N4.cell 2;have n3:=N4.cell 3;simp only [kGs] at v5 n1 n2 n3;clear KV KX KB b3 bb;by_cases hz:RT.size=0
 ·have t2:RT.toList.isEmpty=true:=by rw [Pl.zb3];simpa [Pl.ze8] using hz
  go_wp2
  go_ret2
  exact ⟨.inl ⟨.inl hz,_,_,_,_,rfl⟩,za B4⟩
 have t2:RT.toList.isEmpty=false:=by rw [Pl.zb3];simpa [Pl.ze8] using hz
 cases b with
 |false=>
  have z1:Found RT o (.returned (.tuple #[.nilIface,fault 6])):= .inr (.inl ⟨hz,hO2,rfl⟩);unfold fault at z1;clear hO2;go_wp2
  go_ret2
  exact ⟨z1,za B4⟩
 |true=>
  by_cases hk:nk=1
  ·subst hk;have z1:∀m n v p,Found RT o (.returned (.tuple #[.iface 175 (.agg #[.map m, .int .i64 n,v, .string p]), .nilIface])):=fun m n v p=> .inl ⟨.inr ⟨_,hO2,rfl⟩,m,n,v,p,rfl⟩;clear hO2;go_wp2
   go_ret2
   exact ⟨z1 _ _ _ _,za B4⟩
  ·have y1:(nk==1)=false:=by simpa using hk
   have hk2:nk=2:=by
    rcases (za HKN hz _ hO2).1 with h|h
    ·exact absurd h hk
    ·exact h
   subst hk2;have hds:nd.size≤60:=(za HKN hz _ hO2).2;have z1:Found RT o (.returned (.tuple #[.iface 124 (.agg #[.string nd, .int .i64 nt]), .nilIface])):= .inr (.inr ⟨hz,_,hO2,rfl,rfl⟩);clear hO2 y1 hk;have HB:=hide (fun W (b:Below (w3.alloc (.cells #[.string np, .int .i64 2, .string nd, .int .i64 nt, .int .i64 0] 56)).heap.size (w3.alloc (.cells #[.string np, .int .i64 2, .string nd, .int .i64 nt, .int .i64 0] 56)) W)=>(za B4).trans (b.mono (za B4).size));go_upto_region 7 with fail
   generalize w3.alloc (.cells #[.string np, .int .i64 2, .string nd, .int .i64 nt, .int .i64 0] 56)=w4 at N4 HB ⊢;generalize w3.heap.size=X at N4 ⊢;clear b4 V4 X4 B4 v5 x0 x1 x2 n1 n2 n3;have MK:Hid (∀W',Below w4.heap.size w4 W'→(Below w4.heap.size w4 W'∧W'.cell? ⟨X,2,none⟩=some (.string nd)∧W'.cell? ⟨X,3,none⟩=some (.int .i64 nt))):=hide (fun W' b=>⟨b,(N4.call b).cell 2,(N4.call b).cell 3⟩);refine RG MK (bD _) fun hHeld=>?_;generalize w4.drew=D0 at hHeld ⊢;refine TB 0 ?_;refine TB 1 ?_;refine TB 4 ?_;refine TB 5 ?_;refine RN 2 fun K hK=>?_;go_simp
   have Z1:=Mem.Blk.new D0 #[.string nd] 9;have b1:=hHeld.1.trans (((bE0:Below D0.heap.size D0 (D0.alloc (.cells #[.string nd] 9)))).mono hHeld.1.size);refine hK.out _ _ ?_ (fun hHeld=>?_)
   ·exact za MK _ b1
   clear hK K b1
   try simp only [Act.put,kBs]
   generalize D0.alloc (.cells #[.string nd] 9)=D1 at hHeld Z1 ⊢;generalize D0.heap.size=Y at Z1 ⊢;refine RN 3 fun K hK=>?_;go_simp
   refine (join1 nd Y _ D1 (by omega) Z1).mono ?_;rintro e D2 ⟨rfl,bX⟩;refine hK.out _ _ ?_ (fun hHeld2=>?_)
   ·exact za MK _ (hHeld.1.trans (bX.mono hHeld.1.size))
   clear hK K bX Z1 hHeld
   try simp only [Act.put,kBs]
   refine TB 6 ?_;refine TB 7 ?_;refine TB 8 ?_;refine TB 9 ?_;refine wpAnyH_done (by kernel_rfl) ?_ _;have bF:=za HB _ hHeld2.1;clear hHeld2 MK HB;go_wp2
   go_ret2
   exact ⟨z1,bF⟩
end WVfs
end
section
open Go.RowKit Go.Maps
namespace WVfs
set_option linter.unusedSimpArgs false in
set_option maxRecDepth 100000 in
set_option maxHeartbeats 2000000 in
theorem read_any (s:Pl.Sp) (q:Nat) (E:List (Int × Pl.Nv)) (sa ta:Option Addr) (sc tc B:Nat) (d:Int) (RT:ByteArray) (w:World) (hg:w.cell? ⟨1,0,none⟩=some (.iface 207 (.agg #[.pointer (some ⟨6,71,none⟩)]))) (hG:SpO.SpV B w s q E sa sc ta tc) (hrise:(s.N.map (·.d)).Pairwise (· < ·)) (x:Pl.Ns) (k:Nat) (hx:s.N[k]? =some x) (hxd:x.d=d) (hi:MapI.i64 d) (hr:(Pl.nest (Pl.rowO (x.Is.map Pl.It.r))).isSome=true) (hp:Pl.za0 RT=true):
  Calls Tryz.prog 30 #[.agg #[.map (some q), .slice sa s.M.length sc, .slice ta s.H.length tc, .int .i64 s.next, .int .i64 d, .string RT]] w fun e w'=>e= .returned (vcs (Pl.zh7 (Pl.zi (x.Is.map Pl.It.r) RT) RT))∧Below w.heap.size w w':=by

 have hlt:1<w.heap.size:=World.block_lt_of_cell? w ⟨1,0,none⟩ hg;have HR:=hide (fun c W (b:Below w.heap.size w W)=>yd8 c W ((b.cell (p:=⟨1,0,none⟩) hlt).trans hg));unfold vill fault at HR;have b0:Below w.heap.size w ((w.alloc (.cells #[.map (some q), .slice sa s.M.length sc, .slice ta s.H.length tc, .int .i64 s.next, .int .i64 d, .string RT] 69)).alloc (.cells #[.slice none 0 0, .slice none 0 0, .slice none 0 0, .int .i64 0, .string ⟨#[]⟩, .slice none 0 0, .int .i64 0, .int .i64 0, .int .i64 0] 35)):=(bE0).alloc (by simp) _
 have V0:=(Mem.Blk.new w #[.map (some q), .slice sa s.M.length sc, .slice ta s.H.length tc, .int .i64 s.next, .int .i64 d, .string RT] 69).alloc (.cells #[.slice none 0 0, .slice none 0 0, .slice none 0 0, .int .i64 0, .string ⟨#[]⟩, .slice none 0 0, .int .i64 0, .int .i64 0, .int .i64 0] 35);have U0:=Mem.Blk.new (w.alloc (.cells #[.map (some q), .slice sa s.M.length sc, .slice ta s.H.length tc, .int .i64 s.next, .int .i64 d, .string RT] 69)) #[.slice none 0 0, .slice none 0 0, .slice none 0 0, .int .i64 0, .string ⟨#[]⟩, .slice none 0 0, .int .i64 0, .int .i64 0, .int .i64 0] 35;rw [show (w.alloc (.cells #[.map (some q), .slice sa s.M.length sc, .slice ta s.H.length tc, .int .i64 s.next, .int .i64 d, .string RT] 69)).heap.size=w.heap.size+1 by simp] at U0
 have HF:=hide (find_any s q E sa ta sc tc B d RT _ (hG.call b0) hrise x k hx hxd hi hr hp);generalize Pl.zi (x.Is.map Pl.It.r) RT=o at HF ⊢;obtain ⟨a0,a1,a2,a3,a4,a5⟩:=jc6 V0;have KB:=hide b0;have KU:=hide U0;have HT:Hid (∀A,Pl.zh7 o RT=A→vcs (Pl.zh7 o RT)=vcs A):=hide (fun A h=>by rw [h]);generalize hvc:vcs (Pl.zh7 o RT)=VC at HT ⊢;have HVC:=hide hvc;clear hG hrise hx hxd hi hr hp V0 U0 b0 hg hlt hvc;go_enter Tryz.func30,Tryz.ntmps30
 go_wp2_with fail
 generalize (w.alloc (.cells #[.map (some q), .slice sa s.M.length sc, .slice ta s.H.length tc, .int .i64 s.next, .int .i64 d, .string RT] 69)).alloc (.cells #[.slice none 0 0, .slice none 0 0, .slice none 0 0, .int .i64 0, .string ⟨#[]⟩, .slice none 0 0, .int .i64 0, .int .i64 0, .int .i64 0] 35)=w2 at HF KB KU a0 a1 a2 a3 a4 a5 ⊢;refine (za HF).mono ?_;rintro e w3 ⟨hF,b3⟩;have U3:=hide ((za KU).call b3);have B3:=hide ((za KB).trans (b3.mono (za KB).size));clear a0 a1 a2 a3 a4 a5 HF KB KU b3;unfold Found fault at hF
 rcases hF with ⟨hF,m,n,v,p,rfl⟩|⟨hz,ho,rfl⟩|⟨hz,n,ho,hk,rfl⟩
 ·have HV1:Hid (VC=vcs (Pl.Ao.ill 11)):=hide (by
   rw [←za HVC];unfold Pl.zh7
   rcases hF with h|⟨n,h,hk⟩
   ·rw [if_pos h]
   ·split
    ·rfl
    ·rw [h];unfold Pl.zo;simp [hk])
  clear HVC HT hF;go_wp2_with fail
  refine (file_none m n v p _).mono ?_;unfold fault;rintro e w4 ⟨rfl,b4⟩;have bA:Below w4.heap.size w4 (w4.alloc (.cells #[.string ⟨#[]⟩, .int .i64 0] 124)):=bE0;have bb:=b4.trans (bA.mono b4.size);have U5:=hide ((za U3).call bb);have B5:=hide ((za B3).trans (bb.mono (za B3).size));clear U3 B3 b4 bA bb;go_upto_region 5 with fail
  generalize w4.alloc (.cells #[.string ⟨#[]⟩, .int .i64 0] 124)=w5 at U5 B5 ⊢;go_wp2_with fail
  refine (za HR 11 _ (za B5)).mono ?_;rintro e wI ⟨rfl,bX⟩;have UI:=(za U5).call bX;have BI:=hide ((za B5).trans (bX.mono (za B5).size));clear bX HR;obtain ⟨⟨d0,d1,d2,d3,d4,d5,d6,d7,d8⟩,f0,f1,f2,f3,f4,f5,f6,f7,f8⟩:=jf9 UI;go_wp2
  refine bodyPost_ret (v:= .agg #[.slice none 0 0, .slice none 0 0, .slice none 0 0, .int .i64 0, .string ⟨#[]⟩, .slice none 0 0, .int .i64 0, .int .i64 0, .int .i64 11]) (by simp [results,Tryz.results30,go_sem,d0,d1,d2,d3,d4,d5,d6,d7,d8]) rfl ⟨by rw [za HV1];rfl,?_⟩;refine Below.setCell (Below.setCell (Below.setCell (Below.setCell (Below.setCell (Below.setCell (Below.setCell (Below.setCell (Below.setCell (za BI) ?_ _) ?_ _) ?_ _) ?_ _) ?_ _) ?_ _) ?_ _) ?_ _) ?_ _ <;> exact Nat.le_succ _
 ·have HV1:Hid (VC=vcs (Pl.Ao.ill 6)):=hide (by
   rw [←za HVC];unfold Pl.zh7;rw [if_neg hz,ho]
   rfl)
  clear HVC HT hz ho;go_wp2_with fail
  refine (za HR 6 _ (za B3)).mono ?_;rintro e wI ⟨rfl,bX⟩;have UI:=(za U3).call bX;have BI:=hide ((za B3).trans (bX.mono (za B3).size));clear bX HR;obtain ⟨⟨d0,d1,d2,d3,d4,d5,d6,d7,d8⟩,f0,f1,f2,f3,f4,f5,f6,f7,f8⟩:=jf9 UI;go_wp2
  refine bodyPost_ret (v:= .agg #[.slice none 0 0, .slice none 0 0, .slice none 0 0, .int .i64 0, .string ⟨#[]⟩, .slice none 0 0, .int .i64 0, .int .i64 0, .int .i64 6]) (by simp [results,Tryz.results30,go_sem,d0,d1,d2,d3,d4,d5,d6,d7,d8]) rfl ⟨by rw [za HV1];rfl,?_⟩;refine Below.setCell (Below.setCell (Below.setCell (Below.setCell (Below.setCell (Below.setCell (Below.setCell (Below.setCell (Below.setCell (za BI) ?_ _) ?_ _) ?_ _) ?_ _) ?_ _) ?_ _) ?_ _) ?_ _) ?_ _ <;> exact Nat.le_succ _
 ·have HV1:Hid (VC=vcs ⟨[],[],[],0,n.time,n.data,0⟩):=hide (by
   rw [←za HVC];unfold Pl.zh7;rw [if_neg hz,ho];unfold Pl.zo
   simp [hk])
  clear HVC HT hz ho hk HR;obtain ⟨np,nk,nd,nt,nm⟩:=n;simp only at HV1 ⊢;go_wp2_with fail
  refine (file_of nd nt _).mono ?_;rintro e w4 ⟨rfl,b4⟩;have bA:Below w4.heap.size w4 (w4.alloc (.cells #[.string nd, .int .i64 nt] 124)):=bE0;have bb:=b4.trans (bA.mono b4.size);have U5:=(za U3).call bb;have B5:=hide ((za B3).trans (bb.mono (za B3).size));have X5:=Mem.Blk.new w4 #[.string nd, .int .i64 nt] 124;obtain ⟨x0,x1⟩:=jc2 X5;clear U3 B3 b4 bA bb;go_upto_region 5 with fail
  generalize w4.alloc (.cells #[.string nd, .int .i64 nt] 124)=w5 at U5 B5 x0 x1 ⊢;obtain ⟨⟨d0,d1,d2,d3,d4,d5,d6,d7,d8⟩,f0,f1,f2,f3,f4,f5,f6,f7,f8⟩:=jf9 U5;go_wp2
  refine bodyPost_ret (v:= .agg #[.slice none 0 0, .slice none 0 0, .slice none 0 0, .int .i64 0, .string nd, .slice none 0 0, .int .i64 0, .int .i64 nt, .int .i64 0]) (by simp [results,Tryz.results30,go_sem,d0,d1,d2,d3,d4,d5,d6,d7,d8]) rfl ⟨by rw [za HV1];rfl,?_⟩;refine Below.setCell (Below.setCell (Below.setCell (Below.setCell (Below.setCell (Below.setCell (Below.setCell (Below.setCell (Below.setCell (za B5) ?_ _) ?_ _) ?_ _) ?_ _) ?_ _) ?_ _) ?_ _) ?_ _) ?_ _ <;> exact Nat.le_succ _
end WVfs
end
section
open Go.RowKit
namespace Mem
structure Res (w w':World):Prop where
 heap:w'.heap[w.heap.size]? =some (.cells #[.string ⟨#[]⟩, .int .i64 0, .int .i64 0] 204 (0,0))
 bel:Below w.heap.size w w'
theorem Res.start (w:World):Res w (w.alloc (.cells #[.string ⟨#[]⟩, .int .i64 0, .int .i64 0] 204)):=⟨heap_alloc_new w _,(Below.refl _ _).alloc (Nat.le_refl _) _⟩
theorem Res.lt {w w':World} (h:Res w w'):w.heap.size<w'.heap.size:=(Array.getElem?_eq_some_iff.1 h.heap).1
theorem Res.below {w w1 w2:World} {B:Nat} (h:Res w w1) (hb:Below B w1 w2) (hB:w.heap.size<B):Res w w2:=
 ⟨(hb.block _ hB).trans h.heap,h.bel.trans (hb.mono (Nat.le_of_lt hB))⟩
theorem Res.call {w w1 w2:World} (h:Res w w1) (hb:Below w1.heap.size w1 w2):Res w w2:=h.below hb h.lt
theorem Res.cells {w w':World} (h:Res w w'):(w'.cell? ⟨w.heap.size,0,none⟩=some (.string ⟨#[]⟩)∧w'.cell? ⟨w.heap.size,1,none⟩=some (.int .i64 0)∧w'.cell? ⟨w.heap.size,2,none⟩=some (.int .i64 0))∧
  (w'.frozen? ⟨w.heap.size,0,none⟩=false∧w'.frozen? ⟨w.heap.size,1,none⟩=false∧w'.frozen? ⟨w.heap.size,2,none⟩=false):=by
 refine ⟨⟨?_,?_,?_⟩,⟨zb4 h.heap,zb4 h.heap,zb4 h.heap⟩⟩
 ·rw [cell_of_row w' _ 0 _ _ (0,0) h.heap];rfl
 ·rw [cell_of_row w' _ 1 _ _ (0,0) h.heap];rfl
 ·rw [cell_of_row w' _ 2 _ _ (0,0) h.heap];rfl
end Mem
end
section
open Go.RowKit Go.Maps
namespace WVfs
theorem SpV_low {B B':Nat} {W:World} {s:Pl.Sp} {q:Nat} {E:List (Int × Pl.Nv)} {ma:Option Addr} {mc:Nat} {ha:Option Addr} {hc:Nat} (h:SpO.SpV B W s q E ma mc ha hc) (hB:B'≤B):SpO.SpV B' W s q E ma mc ha hc:=⟨Nat.le_trans hB h.lo,h.ids,h.mo,h.nv,h.ne⟩
end WVfs
end
section
set_option linter.unusedSimpArgs false
open Go.RowKit
namespace Pl
def idxF {α:Type} (f:α→Bool):List α→Int
 | []=> -1
 |x::r=>if f x then 0 else (if idxF f r<0 then -1 else idxF f r+1)
theorem idx_at {α:Type} {f:α→Bool} {l:List α} {k:Nat} {x:α} (h:l[k]? =some x) (hx:f x=true) (hn:∀ (j:Nat) y,j<k→l[j]? =some y→f y=false):idxF f l=(k:Int):=by
 induction l generalizing k with
 |nil=>simp at h
 |cons y r ih=>
  rw [idxF];cases k with
  |zero=>simp at h;subst h;rw [if_pos hx];rfl
  |succ k=>
   have h0:f y=false:=hn 0 y (by omega) rfl;have :=ih (k:=k) (by simpa using h) (fun j z hj hz=>hn (j+1) z (by omega) (by simpa using hz));rw [if_neg (by simp [h0]),this,if_neg (by omega)];omega
theorem idx_no {α:Type} {f:α→Bool} {l:List α} (hn:∀ (j:Nat) y,l[j]? =some y→f y=false):idxF f l= -1:=by
 induction l with
 |nil=>rfl
 |cons y r ih=>
  have h0:f y=false:=hn 0 y rfl;have :=ih (fun j z hz=>hn (j+1) z (by simpa using hz));rw [idxF,if_neg (by simp [h0]),this];rfl
theorem idx_any {α:Type} (f:α→Bool) (l:List α):decide (0≤idxF f l)=l.any f:=by
 induction l with
 |nil=>rfl
 |cons y r ih=>
  rw [idxF,List.any_cons];cases h:f y
  ·rw [if_neg (by simp),Bool.false_or,←ih]
   split
   ·rename_i h2;rw [decide_eq_decide];omega
   ·rename_i h2;rw [decide_eq_decide];omega
  ·rfl
end Pl
namespace WSpI
set_option maxRecDepth 100000 in
set_option maxHeartbeats 800000 in
theorem index_any (K:FuncId) (c:Value) (f:Pl.Mn→Bool) (a:Option Addr) (cap:Nat) (M:List Pl.Mn) (w:World) (hl:M.length≤1048576) (hv:Mem.zb8 w a M)
  (hE:∀ (t:Pl.Mn) W,(callFunc K #[.agg #[.string t.p, .int .i64 t.i, .bool t.z],c]).run Tryz.prog W= .ok (.enter K #[.agg #[.string t.p, .int .i64 t.i, .bool t.z],c]) W)
  (hK:∀t∈M,∀W,Below w.heap.size w W→Calls Tryz.prog K #[.agg #[.string t.p, .int .i64 t.i, .bool t.z],c] W fun e w'=>e= .returned (.bool (f t))∧Below W.heap.size W w'):
  Calls Tryz.prog 154 #[.slice a M.length cap, .func (.func K) #[] #[c]] w fun e w'=>e= .returned (.int .i64 (Pl.idxF f M))∧Below w.heap.size w w':=by
 have HX:=hide hv;have HK:=hide hK;have HAT:=hide (fun (k:Nat) (x:Pl.Mn)=>Pl.idx_at (f:=f) (l:=M) (k:=k) (x:=x));have HNO:=hide (Pl.idx_no (f:=f) (l:=M));generalize Pl.idxF f M=R at HAT HNO ⊢;clear hv hK;go_enter Tryz.func154,Tryz.ntmps154
 go_wp2
 go_loopw [8] (fun i wr=>∃k:Nat,k≤M.length∧i= .int .i64 (k:Int)∧Below w.heap.size w wr∧Hid (∀ (j:Nat) y,j<k→M[j]? =some y→f y=false)) (fun i _=>M.length - (intOf i).toNat)
 case atStart=>exact ⟨0,Nat.zero_le _,rfl,Below.refl _ _,fun j y h=>absurd h (by omega)⟩
 case round=>
  obtain ⟨k,hk,rfl,hbel,HA⟩:=hrel;by_cases hlt:k<M.length
  ·obtain ⟨t,ht⟩:∃n,M[k]? =some n:=⟨_,List.getElem?_eq_getElem hlt⟩;obtain ⟨g,o,rfl,hg,q0,q1,q2⟩:=(za HX) k t ht;have c0:=(hbel.cell (p:=⟨g,_,none⟩) hg).trans q0;have c1:=(hbel.cell (p:=⟨g,_,none⟩) hg).trans q1;have c2:=(hbel.cell (p:=⟨g,_,none⟩) hg).trans q2;have u1:(k:Int)<(M.length:Int):=by omega
   have u3:(0:Int)≤(k:Int):=by omega
   have hc:=hide (za HK t (List.mem_of_getElem? ht) wr hbel);have HT:=hide ht;have hE1:=hE t;clear q0 q1 q2 ht;go_wp2_with fail
   refine (za hc).mono ?_;rintro e w1 ⟨rfl,bX⟩;have b1:=hbel.trans (bX.mono hbel.size);cases hf:f t
   ·have HA2:Hid (∀ (j:Nat) y,j<k+1→M[j]? =some y→f y=false):=fun j y hj hy=>by
     rcases Nat.lt_succ_iff_lt_or_eq.1 hj with h|h
     ·exact za HA j y h hy
     ·subst h;rw [za HT] at hy;cases hy;exact hf
    go_wp2
    go_roundw
    case rel=>exact ⟨k+1,by omega,by go_num,b1,HA2⟩
    case measure=>simp [intOf];omega
   ·have e0:=hide (za HAT k t (za HT) hf (za HA));go_wp2
    go_ret
    exact ⟨by rw [za e0];rfl,b1⟩
  ·have u1:¬ (k:Int)<(M.length:Int):=by omega
   have e0:=hide (za HNO (fun j y hy=>za HA j y (by have :=(List.getElem?_eq_some_iff.1 hy).1;omega) hy));go_wp2
   go_ret
   exact ⟨by rw [za e0];rfl,hbel⟩
set_option maxRecDepth 100000 in
theorem contains_any (K:FuncId) (c:Value) (f:Pl.Mn→Bool) (a:Option Addr) (cap:Nat) (M:List Pl.Mn) (w:World) (hl:M.length≤1048576) (hv:Mem.zb8 w a M)
  (hE:∀ (t:Pl.Mn) W,(callFunc K #[.agg #[.string t.p, .int .i64 t.i, .bool t.z],c]).run Tryz.prog W= .ok (.enter K #[.agg #[.string t.p, .int .i64 t.i, .bool t.z],c]) W)
  (hK:∀t∈M,∀W,Below w.heap.size w W→Calls Tryz.prog K #[.agg #[.string t.p, .int .i64 t.i, .bool t.z],c] W fun e w'=>e= .returned (.bool (f t))∧Below W.heap.size W w'):
  Calls Tryz.prog 141 #[.slice a M.length cap, .func (.func K) #[] #[c]] w fun e w'=>e= .returned (.bool (M.any f))∧Below w.heap.size w w':=by
 have hi:=hide (index_any K c f a cap M w hl hv hE hK);have HA:=hide (Pl.idx_any f M);generalize Pl.idxF f M=R at hi HA;generalize M.any f=B at HA ⊢;clear hE hK hv;go_enter Tryz.func141,Tryz.ntmps141
 go_wp2_with fail
 refine (za hi).mono ?_;rintro e w1 ⟨rfl,bX⟩;go_wp2
 go_ret
 exact ⟨by rw [←za HA];rfl,bX⟩
def other (m o:Pl.Mn):Bool:= !(decide (o.p=m.p)&&decide (o.i=m.i)&&decide (o.z=m.z))&&decide (o.i=m.i)
set_option maxRecDepth 100000 in
set_option maxHeartbeats 800000 in
theorem other_any (m o:Pl.Mn) (X:Nat) (w:World) (hX:Mem.Blk w X #[.string m.p, .int .i64 m.i, .bool m.z] 51):
  Calls Tryz.prog 142 #[.agg #[.string o.p, .int .i64 o.i, .bool o.z], .pointer (some ⟨X,0,none⟩)] w fun e w'=>e= .returned (.bool (other m o))∧Below w.heap.size w w':=by
 have b0:=(Below.refl w.heap.size w).alloc (o:= .cells #[.string o.p, .int .i64 o.i, .bool o.z] 51) (Nat.le_refl _);have V:=Mem.Blk.new w #[.string o.p, .int .i64 o.i, .bool o.z] 51;have Y:=hX.alloc (.cells #[.string o.p, .int .i64 o.i, .bool o.z] 51);obtain ⟨a0,a1,a2⟩:=jc3 V;obtain ⟨y0,y1,y2⟩:=jc3 Y;clear V Y hX;obtain ⟨op,oi,oz⟩:=o;obtain ⟨mp,mi,mz⟩:=m;simp only at a0 a1 a2 y0 y1 y2 b0 ⊢;by_cases hi:oi=mi
 ·subst hi;by_cases hp:op=mp
  ·subst hp;by_cases hz:oz=mz
   ·subst hz;have e0:other ⟨op,oi,oz⟩ ⟨op,oi,oz⟩=false:=by simp [other]
    rw [e0];go_enter Tryz.func142,Tryz.ntmps142
    go_wp2
    go_ret
    exact ⟨rfl,b0⟩
   ·have e0:other ⟨op,oi,mz⟩ ⟨op,oi,oz⟩=true:=by simp [other,hz]
    rw [e0];have hz1:(oz==mz)=false:=by simpa using hz
    go_enter Tryz.func142,Tryz.ntmps142
    go_wp2
    go_ret
    exact ⟨rfl,b0⟩
  ·have e0:other ⟨mp,oi,mz⟩ ⟨op,oi,oz⟩=true:=by simp [other,hp]
   rw [e0];have hp1:=Pl.zj5 hp;go_enter Tryz.func142,Tryz.ntmps142
   go_wp2
   go_ret
   exact ⟨rfl,b0⟩
 ·have e0:other ⟨mp,mi,mz⟩ ⟨op,oi,oz⟩=false:=by simp [other,hi]
  rw [e0];have hi1:(oi==mi)=false:=by simpa using hi
  go_enter Tryz.func142,Tryz.ntmps142
  go_wp2
  go_ret
  exact ⟨rfl,b0⟩
end WSpI
end
section
set_option linter.unusedSimpArgs false
open Go.RowKit
namespace WSpI
set_option maxRecDepth 100000 in
set_option maxHeartbeats 800000 in
theorem indexH_any (K:FuncId) (c:Value) (f:Pl.Hn→Bool) (a:Option Addr) (cap:Nat) (M:List Pl.Hn) (w:World) (hl:M.length≤1048576) (hv:Mem.zd3 w a M)
  (hE:∀ (t:Pl.Hn) W,(callFunc K #[.agg #[.int .i64 t.d, .int .i64 t.i, .string t.p],c]).run Tryz.prog W= .ok (.enter K #[.agg #[.int .i64 t.d, .int .i64 t.i, .string t.p],c]) W)
  (hK:∀t∈M,∀W,Below w.heap.size w W→Calls Tryz.prog K #[.agg #[.int .i64 t.d, .int .i64 t.i, .string t.p],c] W fun e w'=>e= .returned (.bool (f t))∧Below W.heap.size W w'):
  Calls Tryz.prog 104 #[.slice a M.length cap, .func (.func K) #[] #[c]] w fun e w'=>e= .returned (.int .i64 (Pl.idxF f M))∧Below w.heap.size w w':=by
 have HX:=hide hv;have HK:=hide hK;have HAT:=hide (fun (k:Nat) (x:Pl.Hn)=>Pl.idx_at (f:=f) (l:=M) (k:=k) (x:=x));have HNO:=hide (Pl.idx_no (f:=f) (l:=M));generalize Pl.idxF f M=R at HAT HNO ⊢;clear hv hK;go_enter Tryz.func104,Tryz.ntmps104
 go_wp2
 go_loopw [8] (fun i wr=>∃k:Nat,k≤M.length∧i= .int .i64 (k:Int)∧Below w.heap.size w wr∧Hid (∀ (j:Nat) y,j<k→M[j]? =some y→f y=false)) (fun i _=>M.length - (intOf i).toNat)
 case atStart=>exact ⟨0,Nat.zero_le _,rfl,Below.refl _ _,fun j y h=>absurd h (by omega)⟩
 case round=>
  obtain ⟨k,hk,rfl,hbel,HA⟩:=hrel;by_cases hlt:k<M.length
  ·obtain ⟨t,ht⟩:∃n,M[k]? =some n:=⟨_,List.getElem?_eq_getElem hlt⟩;obtain ⟨g,o,rfl,hg,q0,q1,q2⟩:=(za HX) k t ht;have c0:=(hbel.cell (p:=⟨g,_,none⟩) hg).trans q0;have c1:=(hbel.cell (p:=⟨g,_,none⟩) hg).trans q1;have c2:=(hbel.cell (p:=⟨g,_,none⟩) hg).trans q2;have u1:(k:Int)<(M.length:Int):=by omega
   have u3:(0:Int)≤(k:Int):=by omega
   have hc:=hide (za HK t (List.mem_of_getElem? ht) wr hbel);have HT:=hide ht;have hE1:=hE t;clear q0 q1 q2 ht;go_wp2_with fail
   refine (za hc).mono ?_;rintro e w1 ⟨rfl,bX⟩;have b1:=hbel.trans (bX.mono hbel.size);cases hf:f t
   ·have HA2:Hid (∀ (j:Nat) y,j<k+1→M[j]? =some y→f y=false):=fun j y hj hy=>by
     rcases Nat.lt_succ_iff_lt_or_eq.1 hj with h|h
     ·exact za HA j y h hy
     ·subst h;rw [za HT] at hy;cases hy;exact hf
    go_wp2
    go_roundw
    case rel=>exact ⟨k+1,by omega,by go_num,b1,HA2⟩
    case measure=>simp [intOf];omega
   ·have e0:=hide (za HAT k t (za HT) hf (za HA));go_wp2
    go_ret
    exact ⟨by rw [za e0];rfl,b1⟩
  ·have u1:¬ (k:Int)<(M.length:Int):=by omega
   have e0:=hide (za HNO (fun j y hy=>za HA j y (by have :=(List.getElem?_eq_some_iff.1 hy).1;omega) hy));go_wp2
   go_ret
   exact ⟨by rw [za e0];rfl,hbel⟩
theorem handI_idx (H:List Pl.Hn) (d:Int):Pl.idxF (fun h=>decide (h.d=d)) H=Pl.handI H d:=by
 induction H with
 |nil=>rfl
 |cons h r ih=>
  rw [Pl.idxF,Pl.handI,ih];by_cases e:h.d=d
  ·rw [if_pos (by simp [e]),if_pos e]
  ·rw [if_neg (by simp [e]),if_neg e]
set_option maxRecDepth 100000 in
set_option maxHeartbeats 800000 in
theorem handle1_any (t:Pl.Hn) (d:Int) (X:Nat) (w:World) (hX:Mem.Blk w X #[.int .i64 d] 2):
  Calls Tryz.prog 105 #[.agg #[.int .i64 t.d, .int .i64 t.i, .string t.p], .pointer (some ⟨X,0,none⟩)] w fun e w'=>e= .returned (.bool (decide (t.d=d)))∧Below w.heap.size w w':=by
 have b0:=(Below.refl w.heap.size w).alloc (o:= .cells #[.int .i64 t.d, .int .i64 t.i, .string t.p] 87) (Nat.le_refl _);have a0:=(Mem.Blk.new w #[.int .i64 t.d, .int .i64 t.i, .string t.p] 87).cell 0;have y0:=(hX.alloc (.cells #[.int .i64 t.d, .int .i64 t.i, .string t.p] 87)).cell 0;simp only [kGs] at a0 y0;clear hX;by_cases h:t.d=d
 ·have h1:(t.d==d)=true:=by simpa using h
  rw [decide_eq_true h];clear h;go_enter Tryz.func105,Tryz.ntmps105
  go_wp2
  go_ret
  exact ⟨rfl,b0⟩
 ·have h1:(t.d==d)=false:=by simpa using h
  rw [decide_eq_false h];clear h;go_enter Tryz.func105,Tryz.ntmps105
  go_wp2
  go_ret
  exact ⟨rfl,b0⟩
set_option maxRecDepth 100000 in
set_option maxHeartbeats 1000000 in
theorem handle_at (q:Nat) (ma:Option Addr) (ml mc:Nat) (ha:Option Addr) (hc:Nat) (H:List Pl.Hn) (next d:Int) (w:World) (hl:H.length≤1048576) (hm:Mem.zd3 w ha H):
  Calls Tryz.prog 73 #[.agg #[.map (some q), .slice ma ml mc, .slice ha H.length hc, .int .i64 next], .int .i64 d] w fun e w'=>(∃x y z,e= .returned (.tuple #[.agg #[.int .i64 x, .int .i64 y, .string z], .bool (!decide (Pl.handI H d<0))])∧∀ (k:Nat) t,Pl.handI H d=(k:Int)→H[k]? =some t→x=t.d∧y=t.i∧z=t.p)∧Below w.heap.size w w':=by
 have hmf:∀ (fn:Fn) (first cap:Array Value) (w:World),(Instr.makeFunc fn first cap).run Tryz.prog w= .ok (.func fn first cap) w:=fun _ _ _ _=>rfl;have b0:Below w.heap.size w (((w.alloc (.cells #[.map (some q), .slice ma ml mc, .slice ha H.length hc, .int .i64 next] 67)).alloc (.cells #[.int .i64 d] 2)).alloc (.cells #[.int .i64 0, .int .i64 0, .string ⟨#[]⟩] 87)):=((bE0).alloc (by simp) _).alloc (by simp;omega) _;have V:=((Mem.Blk.new w #[.map (some q), .slice ma ml mc, .slice ha H.length hc, .int .i64 next] 67).alloc (.cells #[.int .i64 d] 2)).alloc (.cells #[.int .i64 0, .int .i64 0, .string ⟨#[]⟩] 87)
 have X:=(Mem.Blk.new (w.alloc (.cells #[.map (some q), .slice ma ml mc, .slice ha H.length hc, .int .i64 next] 67)) #[.int .i64 d] 2).alloc (.cells #[.int .i64 0, .int .i64 0, .string ⟨#[]⟩] 87);have Y:=Mem.Blk.new ((w.alloc (.cells #[.map (some q), .slice ma ml mc, .slice ha H.length hc, .int .i64 next] 67)).alloc (.cells #[.int .i64 d] 2)) #[.int .i64 0, .int .i64 0, .string ⟨#[]⟩] 87;rw [show (w.alloc (.cells #[.map (some q), .slice ma ml mc, .slice ha H.length hc, .int .i64 next] 67)).heap.size=w.heap.size+1 by simp] at X;rw [show ((w.alloc (.cells #[.map (some q), .slice ma ml mc, .slice ha H.length hc, .int .i64 next] 67)).alloc (.cells #[.int .i64 d] 2)).heap.size=w.heap.size+2 by simp] at Y
 have hcon:=hide (indexH_any 105 (.pointer (some ⟨w.heap.size+1,0,none⟩)) (fun h=>decide (h.d=d)) ha hc H _ hl (Mem.zf3 hm b0) (fun t W=>by kernel_rfl) (fun t _ W b=>handle1_any t d (w.heap.size+1) W (X.call b)));rw [handI_idx] at hcon;have a2:=V.cell 2;simp only [kGs] at a2;have HM:=hide (Mem.zf3 hm b0);have HV:=hide V;have HY:=hide Y;have HIX:=hide (fun k (h:Pl.handI H d=((k:Nat):Int))=>Pl.handI_at h);have HGE:=hide (Pl.handI_ge H d);generalize Pl.handI H d=R at hcon HIX HGE ⊢;clear V X Y hm;go_enter Tryz.func73,Tryz.ntmps73
 go_wp2_with fail
 generalize ((w.alloc (.cells #[.map (some q), .slice ma ml mc, .slice ha H.length hc, .int .i64 next] 67)).alloc (.cells #[.int .i64 d] 2)).alloc (.cells #[.int .i64 0, .int .i64 0, .string ⟨#[]⟩] 87)=wA at b0 hcon a2 HM HV HY ⊢;refine (za hcon).mono ?_;rintro e w1 ⟨rfl,bX⟩;have bb:=b0.trans (bX.mono b0.size);have HV1:=hide ((za HV).call bX);have HY1:=hide ((za HY).call bX);have HM1:=hide (Mem.zf3 (za HM) bX);clear b0 bX hcon a2 HM HV HY hmf;have a2:=(za HV1).cell 2;obtain ⟨⟨y0,y1,y2⟩,f0,f1,f2⟩:=jf3 (za HY1);simp only [kGs] at a2;by_cases hR:R<0
 ·have hq:=hide (show (!decide (R<0))=false by simp [hR]);clear HIX HGE;go_wp2
  refine bodyPost_ret (v:= .tuple #[.agg #[.int .i64 0, .int .i64 0, .string ⟨#[]⟩], .bool false]) (by simp [results,Tryz.results73,go_sem,y0,y1,y2]) rfl ⟨⟨_,_,_,by rw [za hq],fun k t hk=>absurd hR (by omega)⟩,?_⟩;exact sc3 bb (by omega)
 ·have hq:=hide (show (!decide (R<0))=true by simp [hR]);obtain ⟨k,rfl⟩:∃k:Nat,R=(k:Int):=⟨R.toNat,by omega⟩;obtain ⟨t,ht⟩:=za HIX k rfl;have hkl:=(List.getElem?_eq_some_iff.1 ht).1;obtain ⟨g,o,rfl,hg,c0,c1,c2⟩:=(za HM1) k t ht;have u1:(k:Int)<(H.length:Int):=by omega
  have u3:(0:Int)≤(k:Int):=by omega
  have b3:=((bb.setCell (p:=⟨w.heap.size+2,0,none⟩) (Nat.le_add_right _ _) (.int .i64 t.d)).setCell (p:=⟨w.heap.size+2,1,none⟩) (Nat.le_add_right _ _) (.int .i64 t.i)).setCell (p:=⟨w.heap.size+2,2,none⟩) (Nat.le_add_right _ _) (.string t.p)
  have hkt:Hid (∀ (j:Nat) u,((k:Nat):Int)=(j:Int)→H[j]? =some u→t.d=u.d∧t.i=u.i∧t.p=u.p):=hide (fun j u hj hu=>by
   obtain rfl:k=j:=by omega
   rw [ht] at hu;cases hu
   exact ⟨rfl,rfl,rfl⟩)
  clear HIX HGE ht HM1;go_wp2
  refine bodyPost_ret (v:= .tuple #[.agg #[.int .i64 t.d, .int .i64 t.i, .string t.p], .bool true]) (by simp [results,Tryz.results73,go_sem,y0,y1,y2]) rfl ⟨⟨_,_,_,by rw [za hq],za hkt⟩,?_⟩;exact b3
end WSpI
end
section
open Go.RowKit
namespace zr3
set_option maxRecDepth 100000 in
theorem both_any (a b:ByteArray) (w:World) (ha:a.size≤1048576) (hb:b.size≤1048576):
  Calls Tryz.prog 130 #[.string a, .string b] w fun e w'=>∃v1 v2 m,e= .returned (.tuple #[v1,v2, .bool (Pl.za0 a&&Pl.za0 b)])∧w.heap.size≤m∧
   w'.ownsRow w.heap.size 9 1 v1 (Pl.za6 a).length ((Pl.za6 a).map Value.string)∧(∀k,v1.ownBlock=some k→k<m)∧
   w'.ownsRow m 9 1 v2 (Pl.za6 b).length ((Pl.za6 b).map Value.string)∧Below w.heap.size w w':=by
 have hn1:=hide (fun W=>zx7.any a W ha);have hn2:=hide (fun W=>zx7.any b W hb);generalize Pl.za0 a=r1 at hn1 ⊢;generalize Pl.za0 b=r2 at hn2 ⊢;generalize Pl.za6 a=A at hn1 ⊢;generalize Pl.za6 b=B at hn2 ⊢;cases r1 <;> cases r2
 all_goals
  go_enter Tryz.func130,Tryz.ntmps130
  go_wp2_with fail
  refine (za hn1 _).mono ?_;rintro e w1 ⟨v1,rfl,hown1,hb1⟩;have HO1:=hide hown1;clear hown1;go_wp2_with fail
  refine (za hn2 _).mono ?_;rintro e w2 ⟨v2,rfl,hown2,hb2⟩;have HO2:=hide hown2;clear hown2
  have H:Hid (∃m,w.heap.size≤m∧w2.ownsRow w.heap.size 9 1 v1 A.length (A.map Value.string)∧(∀k,v1.ownBlock=some k→k<m)∧
    w2.ownsRow m 9 1 v2 B.length (B.map Value.string)∧Below w.heap.size w w2):=
   ⟨w1.heap.size,hb1.size,Mem.zq8 (za HO1) hb2,fun k hk=>((za HO1).lt k hk).2,za HO2,hb1.trans (hb2.mono hb1.size)⟩
  clear hb1 hb2 HO1 HO2;go_wp2
  go_ret3
  obtain ⟨m,h1,h2,h3,h4,h5⟩:=H.out;exact ⟨v1,v2,m,rfl,h1,h2,h3,h4,h5⟩
end zr3
end
end Go.Proofs.YtgdjjncmocppeaaGreatDoor
