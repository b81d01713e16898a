/- Several texts of one claim in one file: WNodesI, WErrs4, WVAs, WVAsB, WVfs1, WNodeAt, Merge, WLevelUp. -/
import Derived.Test.YtgdjjncmocppeaaGreatDoorG21
import Derived.Test.YtgdjjncmocppeaaGreatDoorG13
import Derived.Stop.Asserts
import Derived.RowKitTokens
import Derived.Test.YtgdjjncmocppeaaGreatDoorWVo
namespace Go.Proofs.YtgdjjncmocppeaaGreatDoor
section
open Go.RowKit Go.Maps
namespace Pl
def parV (e2 e3:Value) (C:List Nd) (p:ByteArray):Value:=
 if (zb5 p).size=0 then .nilIface else match C.find? (fun m=>decide (m.path=zb5 p)) with |none=>e2|some m=>if m.kind=1 then .nilIface else e3
theorem par_ok {C:List Nd} {p:ByteArray} {u2 u3:TypeId} {x2 x3:Value} (hC:C.Pairwise (fun a b=>a.path≠b.path)):
  (parI C p=true∧parV (.iface u2 x2) (.iface u3 x3) C p= .nilIface)∨(parI C p=false∧∃u x,parV (.iface u2 x2) (.iface u3 x3) C p= .iface u x):=by
 unfold parV parI;by_cases h0:(zb5 p).size=0
 ·left;simp [h0]
 simp only [h0,decide_false,Bool.false_or,if_false];cases hf:C.find? (fun m=>decide (m.path=zb5 p)) with
 |none=>
  right
  refine ⟨?_,u2,x2,rfl⟩;rw [List.any_eq_false];intro m hm;have :=List.find?_eq_none.1 hf m hm;simp at this
  simp [this]
 |some m=>
  have h1:=List.mem_of_find?_eq_some hf;have h2:m.path=zb5 p:=by simpa using List.find?_some hf
  by_cases hk:m.kind=1
  ·left
   refine ⟨?_,by simp [hk]⟩;rw [List.any_eq_true];exact ⟨m,h1,by simp [h2,hk]⟩
  ·right
   refine ⟨?_,u3,x3,by simp [hk]⟩;rw [List.any_eq_false];intro x hx;simp only [Bool.and_eq_true,decide_eq_true_eq,not_and];intro hxp
   have :x=m:=by
    have hp:∀ {A:List Nd},A.Pairwise (fun a b=>a.path≠b.path)→∀ {a b:Nd},a∈A→b∈A→a.path=b.path→a=b:=by
     intro A hA
     induction hA with
     |nil=>intro a b ha;cases ha
     |cons hx' _ ih=>
      intro a b ha hb e
      rcases List.mem_cons.1 ha with e1|h1
      ·rcases List.mem_cons.1 hb with e2|h2
       ·rw [e1,e2]
       ·exact absurd (e1 ▸ e) (hx' _ h2)
      ·rcases List.mem_cons.1 hb with e2|h2
       ·exact absurd (e2 ▸ e).symm (hx' _ h1)
       ·exact ih h1 h2 e
    exact hp hC hx h1 (hxp.trans h2.symm)
   rw [this];exact hk
end Pl
namespace MapN
section
variable {P:Program} (w:World) {ops:Array Oper} {rest:List Oper} {o:Oper} {a:Act} {Q:Exit→Act→World→Prop}
theorem look_ok (hg:o.guard=none) (m x:Operand) (t:TypeId) (hop:o.op=Op.lookup t m x true)
  (k e:TypeId) (K:Keyed P k) (ht:P.underlying t=some (.map k e)) (hz:(zeroValue e).run P w= .ok (Pl.Nd.val ⟨⟨#[]⟩,0,⟨#[]⟩,0,0⟩) w) (b n:Nat) (D:DataW Unit)
  (hm:a.eval m= .map (some b)) (hown:w.ownsMap P k elem b n D) (kv:Value) (kl:Lit) (hx:a.eval x=kv) (hkey:keyOf P k kv=some kl) (nd:Pl.Nd) (hat:D.atKey kl (dat ⟨⟨#[]⟩,0,⟨#[]⟩,0,0⟩)=dat nd) (r:Bool) (hr:Maps.has D kl=r)
  (hK:wpList P ops Q rest (a.put o.dst (.tuple #[.agg #[.string nd.path, .int .i64 nd.kind, .string nd.data, .int .i64 nd.time, .int .i64 nd.mark], .bool r])) w):
  wpList P ops Q (o::rest) a w:=
 wpList_lookup_own_ok w hg m x t hop k e K ht elem hz _ [] (zt6 _) b n D hm hown kv kl hx hkey (fun v ps hv=>by
  obtain ⟨n1,rfl,hd⟩:=elem_inv hv;obtain rfl:=zx6 (hat.symm.trans hd);rw [hr]
  exact hK)
end
end MapN
namespace zm9
structure Errs (w:World) (u1 u2 u3:TypeId) (x1 x2 x3:Value):Prop where
 c1:w.cell? ⟨3,0,none⟩=some (.iface u1 x1)
 c2:w.cell? ⟨4,0,none⟩=some (.iface u2 x2)
 c3:w.cell? ⟨5,0,none⟩=some (.iface u3 x3)
theorem Errs.call {w w':World} {u1 u2 u3:TypeId} {x1 x2 x3:Value} (h:Errs w u1 u2 u3 x1 x2 x3) (b:Below w.heap.size w w'):Errs w' u1 u2 u3 x1 x2 x3:=
 ⟨(b.cell (p:=⟨_,0,none⟩) (World.block_lt_of_cell? w ⟨_,0,none⟩ h.c1)).trans h.c1,(b.cell (p:=⟨_,0,none⟩) (World.block_lt_of_cell? w ⟨_,0,none⟩ h.c2)).trans h.c2,(b.cell (p:=⟨_,0,none⟩) (World.block_lt_of_cell? w ⟨_,0,none⟩ h.c3)).trans h.c3⟩
theorem ze4 {w w':World} {B n:Nat} {D:DataW Unit} (h:w.ownsMap Tryz.prog 9 MapN.elem B n D) (b:Below w.heap.size w w'):w'.ownsMap Tryz.prog 9 MapN.elem B n D:=
 h.kept (row:=none) ⟨b.os,b.tape,b.output,b.size,fun k hk _=>b.block k hk⟩ (by simp)
set_option maxRecDepth 100000 in
set_option maxHeartbeats 400000 in
theorem fault_any (B N:Nat) (C:List Pl.Nd) (p:ByteArray) (w:World) (u1 u2 u3:TypeId) (x1 x2 x3:Value) (hE:Errs w u1 u2 u3 x1 x2 x3) (hown:w.ownsMap Tryz.prog 9 MapN.elem B N (MapN.mapOf C)) (hC:C.Pairwise (fun a b=>a.path≠b.path)) (hp:p.size≤1048576):
  Calls Tryz.prog 165 #[.map (some B), .string p] w fun e w'=>e= .returned (Pl.parV (.iface u2 x2) (.iface u3 x3) C p)∧Below w.heap.size w w':=by
 have hpa:=hide (zk2.zz0 p w hp)
 have hz:=hide (show (Pl.zb5 p).size≤1048576 from by
  have h1:=Pl.ze7 p;have h2:=Pl.zv8 (Pl.za6 p).dropLast (fun t ht=>(Pl.zo7 (h1.1 t (List.dropLast_subset _ ht))).2.2.2);rw [List.length_dropLast] at h2;show (Pl.glue (Pl.za6 p).dropLast).size≤1048576
  omega)
 change Hid (Calls Tryz.prog _ _ w fun e w'=>e= .returned (.string (Pl.zb5 p))∧_) at hpa
 have E1:Hid ((Pl.zb5 p).size=0→Pl.parV (.iface u2 x2) (.iface u3 x3) C p= .nilIface):=fun h=>by simp [Pl.parV,h]
 have E2:Hid ((Pl.zb5 p).size≠0→C.find? (fun m=>decide (m.path=Pl.zb5 p))=none→Pl.parV (.iface u2 x2) (.iface u3 x3) C p= .iface u2 x2):=fun h hf=>by simp [Pl.parV,h,hf]
 have E3:Hid ((Pl.zb5 p).size≠0→∀m,C.find? (fun m=>decide (m.path=Pl.zb5 p))=some m→Pl.parV (.iface u2 x2) (.iface u3 x3) C p=if m.kind=1 then .nilIface else .iface u3 x3):=fun h m hf=>by simp [Pl.parV,h,hf]
 generalize Pl.parV (.iface u2 x2) (.iface u3 x3) C p=R at E1 E2 E3 ⊢;generalize Pl.zb5 p=q at hpa hz E1 E2 E3;have HE:=hide hE;have HM:=hide hown;clear hE hown;go_enter Tryz.func165,Tryz.ntmps165
 go_wp2_with fail
 refine (za hpa).mono ?_;rintro e w1 ⟨rfl,b1⟩;have hE1:=(za HE).call b1;have hM1:=hide (ze4 (za HM) b1);have k2:∀o,(w1.alloc o).cell? ⟨4,0,none⟩=some (.iface u2 x2):=fun o=>(World.cell?_alloc_some _ _ _ (by rw [hE1.c2];rfl)).trans hE1.c2;have k3:∀o,(w1.alloc o).cell? ⟨5,0,none⟩=some (.iface u3 x3):=fun o=>(World.cell?_alloc_some _ _ _ (by rw [hE1.c3];rfl)).trans hE1.c3;clear HE HM hpa hE1;by_cases h0:q.size=0
 ·have t0:q.toList.isEmpty=true:=by rw [Pl.zb3];simpa [Pl.ze8] using h0
  have E:=hide (za E1 h0);go_wp2
  go_ret
  exact ⟨by rw [za E];rfl,b1⟩
 have t0:q.toList.isEmpty=false:=by rw [Pl.zb3];simpa [Pl.ze8] using h0
 have hkey:=MapN.zl8 (p:=q) (by have :=za hz;unfold maxLen;omega);cases hf:C.find? (fun m=>decide (m.path=q)) with
 |none=>
  have E:=hide (za E2 h0 hf);have hmiss:∀n∈C,n.path≠q:=fun n hn=>by simpa using List.find?_eq_none.1 hf n hn
  have ha:=hide (MapN.has_no hmiss);have ha2:=hide (Maps.atKey_of_not_has (za ha) (MapN.dat ⟨⟨#[]⟩,0,⟨#[]⟩,0,0⟩));clear E1 E2 E3 hf hmiss;go_wp2_with (at_lookup;refine MapN.look_ok _ rfl _ _ 166 rfl 9 56 MapN.law Tryz.underlying166 (MapN.za3 _) B N (MapN.mapOf C) rfl (za hM1) _ _ rfl hkey ⟨⟨#[]⟩,0,⟨#[]⟩,0,0⟩ (za ha2) false (za ha) ?_)
  go_ret
  exact ⟨by rw [za E];rfl,b1.alloc b1.size _⟩
 |some m=>
  have E:=hide (za E3 h0 m hf);have hm1:=List.mem_of_find?_eq_some hf;have hm2:m.path=q:=by simpa using List.find?_some hf
  obtain ⟨y1,y2⟩:=MapN.at_yes hC hm1;rw [hm2] at y1 y2;have ha:=hide y1;have ha2:=hide (y2 (MapN.dat ⟨⟨#[]⟩,0,⟨#[]⟩,0,0⟩));clear E1 E2 E3 hf y1 y2 hm1 hm2;by_cases hk:m.kind=1
  ·have E':=hide (show R= .nilIface by rw [za E,if_pos hk]);have t1:(m.kind==1)=true:=by simpa using hk
   clear E hk;go_wp2_with (at_lookup;refine MapN.look_ok _ rfl _ _ 166 rfl 9 56 MapN.law Tryz.underlying166 (MapN.za3 _) B N (MapN.mapOf C) rfl (za hM1) _ _ rfl hkey m (za ha2) true (za ha) ?_)
   go_ret
   exact ⟨by rw [za E'];rfl,b1.alloc b1.size _⟩
  ·have E':=hide (show R= .iface u3 x3 by rw [za E,if_neg hk]);have t1:(m.kind==1)=false:=by simpa using hk
   clear E hk;go_wp2_with (at_lookup;refine MapN.look_ok _ rfl _ _ 166 rfl 9 56 MapN.law Tryz.underlying166 (MapN.za3 _) B N (MapN.mapOf C) rfl (za hM1) _ _ rfl hkey m (za ha2) true (za ha) ?_)
   go_ret
   exact ⟨by rw [za E'];rfl,b1.alloc b1.size _⟩
end zm9
end
section
open Go.RowKit
namespace zg8
structure zo5 (w:World) (u0 u1 u2 u3:TypeId) (x0 x1 x2 x3:Value):Prop where
 c0:w.cell? ⟨2,0,none⟩=some (.iface u0 x0)
 three:zm9.Errs w u1 u2 u3 x1 x2 x3
theorem zo5.call {w w':World} {u0 u1 u2 u3:TypeId} {x0 x1 x2 x3:Value} (h:zo5 w u0 u1 u2 u3 x0 x1 x2 x3) (b:Below w.heap.size w w'):zo5 w' u0 u1 u2 u3 x0 x1 x2 x3:=
 ⟨(b.cell (p:=⟨_,0,none⟩) (World.block_lt_of_cell? w ⟨_,0,none⟩ h.c0)).trans h.c0,h.three.call b⟩
end zg8
end
section
open Go.RowKit Go.Extern.Stop Go.Stop Go.Extern
namespace WVAs

theorem valueP (t:Addr) (w:World):(ReflectliteValue.unpack (.iface 118 (.pointer (some t)))).run Tryz.prog w
  = .ok (.agg #[.pointer (some ⟨6,118,none⟩), .pointer (some ⟨w.heap.size,0,none⟩), .int .u64 150]) (w.alloc (.cells #[.pointer (some t)] 118)):=by kernel_rfl
theorem typeP (a:Addr) (w:World):(ReflectliteValue.methodAny (ReflectliteValue.valueError "reflectlite.Value.Type" 0) (fun t _ _ _=>ReflectliteType.toType t) #[.agg #[.pointer (some ⟨6,118,none⟩), .pointer (some a), .int .u64 150]]).run Tryz.prog w
  = .ok (.iface 207 (.agg #[.pointer (some ⟨6,118,none⟩)])) w:=by kernel_rfl
theorem methodKind (h:Value) (w:World):(Go.method 411 207 (.agg #[h]) "Kind").run Tryz.prog w= .ok (183,h) w:=by kernel_rfl
theorem kindP (w:World):((ReflectliteType.abiMethod fun t=>(fun a:Nat=>Value.int IntKind.u8 (a:Int)) <$> Rtype.kind t) #[.pointer (some ⟨6,118,none⟩)]).run Tryz.prog w= .ok (.int .u8 22) w:=by kernel_rfl
theorem kindS (w:World):((ReflectliteType.abiMethod fun t=>(fun a:Nat=>Value.int IntKind.u8 (a:Int)) <$> Rtype.kind t) #[.pointer (some ⟨6,116,none⟩)]).run Tryz.prog w= .ok (.int .u8 25) w:=by kernel_rfl

theorem rlm (z:Sem Value) (f:TypeId→Addr→Nat→Nat→Sem Value) (v:Value):
  ∃g,ReflectliteValue.method z f #[v]=(ReflectliteValue.parts v>>=g)∧∀t a fl,g (some (t,a,fl))=f t a fl (fl % 32):=⟨_,rfl,fun _ _ _=>rfl⟩
theorem partsP (a:Addr) (w:World):(ReflectliteValue.parts (.agg #[.pointer (some ⟨6,118,none⟩), .pointer (some a), .int .u64 150])).run Tryz.prog w= .ok (some (118,a,150)) w:=by kernel_rfl
theorem isNilP (a p:Addr) (W:World) (ha:W.cell? a=some (.pointer (some p))):
  (ReflectliteValue.method (ReflectliteValue.valueError "reflectlite.Value.IsNil" 0) ReflectliteValue.isNil #[.agg #[.pointer (some ⟨6,118,none⟩), .pointer (some a), .int .u64 150]]).run Tryz.prog W= .ok (.bool false) W:=by
 obtain ⟨g,hm,hg⟩:=rlm (ReflectliteValue.valueError "reflectlite.Value.IsNil" 0) ReflectliteValue.isNil (.agg #[.pointer (some ⟨6,118,none⟩), .pointer (some a), .int .u64 150]);rw [hm];simp only [Sem.run_bind,partsP,Result.andThen,hg];simp [ReflectliteValue.isNil,loadVar,isAgg,underlying,Tryz.underlying118,ha,Result.andThen]

theorem methodElem (h:Value) (w:World):(Go.method 411 207 (.agg #[h]) "Elem").run Tryz.prog w= .ok (198, .agg #[h]) w:=by kernel_rfl
theorem ye1 (h:Value) (w:World):(Go.method 411 207 (.agg #[h]) "Implements").run Tryz.prog w= .ok (199, .agg #[h]) w:=by kernel_rfl
theorem yb2 (h:Value) (w:World):(Go.method 411 207 (.agg #[h]) "AssignableTo").run Tryz.prog w= .ok (196, .agg #[h]) w:=by kernel_rfl
theorem elemT (w:World):(ReflectliteType.method ReflectliteType.elem #[.agg #[.pointer (some ⟨6,118,none⟩)]]).run Tryz.prog w= .ok (.iface 207 (.agg #[.pointer (some ⟨6,116,none⟩)])) w:=by kernel_rfl
theorem implementsS (w:World):(ReflectliteType.relation "Implements" ReflectliteType.implements_ #[.agg #[.pointer (some ⟨6,116,none⟩)], .iface 207 (.agg #[.pointer (some ⟨6,71,none⟩)])]).run Tryz.prog w= .ok (.bool true) w:=by kernel_rfl
theorem typeOfS (v:Value) (w:World):(ReflectliteType.typeOf #[.iface 116 v]).run Tryz.prog w= .ok (.iface 207 (.agg #[.pointer (some ⟨6,116,none⟩)])) w:=by kernel_rfl
theorem assignableS (w:World):(ReflectliteType.relation "AssignableTo" ReflectliteType.assignableTo #[.agg #[.pointer (some ⟨6,116,none⟩)], .iface 207 (.agg #[.pointer (some ⟨6,116,none⟩)])]).run Tryz.prog w= .ok (.bool true) w:=by kernel_rfl
theorem valueS (c:Int) (w:World):(ReflectliteValue.unpack (.iface 116 (.agg #[.int .i64 c]))).run Tryz.prog w
  = .ok (.agg #[.pointer (some ⟨6,116,none⟩), .pointer (some ⟨w.heap.size,0,none⟩), .int .u64 153]) (w.alloc (.cells #[.int .i64 c] 116)):=by kernel_rfl
theorem elemOfP (w:World):(Rtype.elem? 118).run Tryz.prog w= .ok (some 116) w:=by kernel_rfl
theorem mkS (p:Addr) (w:World):(ReflectliteValue.mk 116 p ReflectliteValue.flagAddr).run Tryz.prog w= .ok (.agg #[.pointer (some ⟨6,116,none⟩), .pointer (some p), .int .u64 409]) w:=by kernel_rfl
theorem elemV (a p:Addr) (W:World) (ha:W.cell? a=some (.pointer (some p))):
  (ReflectliteValue.method (ReflectliteValue.valueError "reflectlite.Value.Elem" 0) ReflectliteValue.elem #[.agg #[.pointer (some ⟨6,118,none⟩), .pointer (some a), .int .u64 150]]).run Tryz.prog W
   = .ok (.agg #[.pointer (some ⟨6,116,none⟩), .pointer (some p), .int .u64 409]) W:=by
 obtain ⟨g,hm,hg⟩:=rlm (ReflectliteValue.valueError "reflectlite.Value.Elem" 0) ReflectliteValue.elem (.agg #[.pointer (some ⟨6,118,none⟩), .pointer (some a), .int .u64 150]);rw [hm];simp only [Sem.run_bind,partsP,Result.andThen,hg];simp [ReflectliteValue.elem,loadVar,isAgg,underlying,Tryz.underlying118,ha,Result.andThen,elemOfP,mkS]
theorem partsSa (a:Addr) (w:World):(ReflectliteValue.parts (.agg #[.pointer (some ⟨6,116,none⟩), .pointer (some a), .int .u64 409])).run Tryz.prog w= .ok (some (116,a,409)) w:=by kernel_rfl
theorem partsS (a:Addr) (w:World):(ReflectliteValue.parts (.agg #[.pointer (some ⟨6,116,none⟩), .pointer (some a), .int .u64 153])).run Tryz.prog w= .ok (some (116,a,153)) w:=by kernel_rfl
theorem directS (w:World):(Rtype.directlyAssignable 116 116).run Tryz.prog w= .ok true w:=by kernel_rfl
end WVAs
end
section
open Go.RowKit Go.Extern.Stop Go.Stop Go.Extern
namespace WVAs
theorem rls (v x:Value):∃g:Option (TypeId × Addr × Nat)→Option (TypeId × Addr × Nat)→Sem Value,ReflectliteValue.set #[v,x]=(ReflectliteValue.parts v>>=fun p=>ReflectliteValue.parts x>>=fun q=>g p q)∧
  ∀ (P:Program) (W W':World) dst a fl src b h val,(fl / ReflectliteValue.flagAddr % 2==0)=false→(loadVar src b).run P W= .ok val W→(Rtype.directlyAssignable dst src).run P W= .ok true W→(storeVar dst a val).run P W= .ok () W'→
   (g (some (dst,a,fl)) (some (src,b,h))).run P W= .ok (.tuple #[]) W':=by
 refine ⟨_,rfl,?_⟩;intro P W W' dst a fl src b h val hf hl hd hst;simp [hf,hl,hd,hst,Result.andThen]
theorem loadS (b:Addr) (c:Int) (W:World) (hb:W.cell? b=some (.int .i64 c)) (hs:b.spot=none):(loadVar 116 b).run Tryz.prog W= .ok (.agg #[.int .i64 c]) W:=by
 have ha:b.add 0=b:=by obtain ⟨x,y,z⟩:=b;cases hs;rfl
 have h:(loadCells b 1).run Tryz.prog W= .ok #[.int .i64 c] W:=run_loadCells_list (P:=Tryz.prog) W b [.int .i64 c] (fun j v hj=>by
  match j,hj with
  |0,hj=>rw [ha,hb];simpa using hj
  |j+1,hj=>simp at hj)
 simp [loadVar,h,Result.andThen]
theorem storeS (t:Addr) (c:Int) (old:Value) (W:World) (ht:W.cell? t=some old) (hf:W.frozen? t=false) (hs:t.spot=none):(storeVar 116 t (.agg #[.int .i64 c])).run Tryz.prog W= .ok () (W.setCell t (.int .i64 c)):=by
 have ha:t.add 0=t:=by obtain ⟨x,y,z⟩:=t;cases hs;rfl
 simp [storeVar,Value.cells,storeCells,ha]
 rw [run_store Tryz.prog W t _ _ (by rfl)];simp [ht,hf]
theorem setS (ta b:Addr) (c:Int) (old:Value) (W:World) (hb:W.cell? b=some (.int .i64 c)) (hbs:b.spot=none) (ht:W.cell? ta=some old) (hf:W.frozen? ta=false) (hts:ta.spot=none):
  (ReflectliteValue.set #[.agg #[.pointer (some ⟨6,116,none⟩), .pointer (some ta), .int .u64 409], .agg #[.pointer (some ⟨6,116,none⟩), .pointer (some b), .int .u64 153]]).run Tryz.prog W
   = .ok (.tuple #[]) (W.setCell ta (.int .i64 c)):=by
 obtain ⟨g,hs,hg⟩:=rls (.agg #[.pointer (some ⟨6,116,none⟩), .pointer (some ta), .int .u64 409]) (.agg #[.pointer (some ⟨6,116,none⟩), .pointer (some b), .int .u64 153]);rw [hs];simp only [Sem.run_bind,partsSa,partsS,Result.andThen];exact hg _ W _ 116 ta 409 116 b 153 _ rfl (loadS b c W hb hbs) (directS W) (storeS ta c old W ht hf hts)

set_option maxHeartbeats 4000000 in
theorem as_hit (c:Int) (tb:Nat) (old:Value) (w:World) (hg:w.cell? ⟨1,0,none⟩=some (.iface 207 (.agg #[.pointer (some ⟨6,71,none⟩)]))) (ht0:w.cell? ⟨tb,0,none⟩=some old) (hf0:w.frozen? ⟨tb,0,none⟩=false):
  Calls Tryz.prog 57 #[.iface 116 (.agg #[.int .i64 c]), .iface 118 (.pointer (some ⟨tb,0,none⟩))] w fun ev w'=>ev= .returned (.bool true)∧
   w'=((((w.alloc (.cells #[.pointer (some ⟨tb,0,none⟩)] 118)).alloc (.cells #[.pointer (some ⟨6,118,none⟩), .pointer (some ⟨w.heap.size,0,none⟩), .int .u64 150] 155)).alloc (.cells #[.pointer (some ⟨6,118,none⟩), .pointer (some ⟨w.heap.size,0,none⟩), .int .u64 150] 155)).alloc (.cells #[.int .i64 c] 116)).setCell ⟨tb,0,none⟩ (.int .i64 c):=by
 have h1:=@run_callFunc_extern Tryz.prog 85 _ (fun args=>ReflectliteValue.unpack (args.getD 0 (.tuple #[]))) Tryz.func85 (by kernel_rfl) (by kernel_rfl) (by kernel_rfl) (by kernel_rfl);have h2:=@run_callFunc_extern Tryz.prog 86 _ (ReflectliteValue.methodAny (ReflectliteValue.valueError "reflectlite.Value.Type" 0) (fun t _ _ _=>ReflectliteType.toType t)) Tryz.func86 (by kernel_rfl) (by kernel_rfl) (by kernel_rfl) (by kernel_rfl);have h3:=@run_callFunc_extern Tryz.prog 87 _ (ReflectliteValue.method (ReflectliteValue.valueError "reflectlite.Value.IsNil" 0) ReflectliteValue.isNil) Tryz.func87 (by kernel_rfl) (by kernel_rfl) (by kernel_rfl) (by kernel_rfl)
 have h4:=@run_callFunc_extern Tryz.prog 183 _ (ReflectliteType.abiMethod fun t=>do pure (.int .u8 (←Rtype.kind t))) Tryz.func183 (by kernel_rfl) (by kernel_rfl) (by kernel_rfl) (by kernel_rfl);have h5:=@run_callFunc_extern Tryz.prog 198 _ (ReflectliteType.method ReflectliteType.elem) Tryz.func198 (by kernel_rfl) (by kernel_rfl) (by kernel_rfl) (by kernel_rfl);have h6:=@run_callFunc_extern Tryz.prog 199 _ (ReflectliteType.relation "Implements" ReflectliteType.implements_) Tryz.func199 (by kernel_rfl) (by kernel_rfl) (by kernel_rfl) (by kernel_rfl)
 have h7:=@run_callFunc_extern Tryz.prog 114 _ ReflectliteType.typeOf Tryz.func114 (by kernel_rfl) (by kernel_rfl) (by kernel_rfl) (by kernel_rfl);have h8:=@run_callFunc_extern Tryz.prog 196 _ (ReflectliteType.relation "AssignableTo" ReflectliteType.assignableTo) Tryz.func196 (by kernel_rfl) (by kernel_rfl) (by kernel_rfl) (by kernel_rfl);have h9:=@run_callFunc_extern Tryz.prog 115 _ (ReflectliteValue.method (ReflectliteValue.valueError "reflectlite.Value.Elem" 0) ReflectliteValue.elem) Tryz.func115 (by kernel_rfl) (by kernel_rfl) (by kernel_rfl) (by kernel_rfl)
 have h10:=@run_callFunc_extern Tryz.prog 116 _ ReflectliteValue.set Tryz.func116 (by kernel_rfl) (by kernel_rfl) (by kernel_rfl) (by kernel_rfl);have g1:=typeOfS;have g2:=yb2;have g3:=assignableS;have g4:=valueS;have g5:=valueP;have g6:=typeP;have g7:=methodKind;have g8:=methodElem;have g9:=ye1;have g10:=kindP;have g11:=kindS;have g12:=elemT;have g13:=implementsS;have n8:=isNilP ⟨w.heap.size,0,none⟩ ⟨tb,0,none⟩ ((w.alloc (.cells #[.pointer (some ⟨tb,0,none⟩)] 118)).alloc (.cells #[.pointer (some ⟨6,118,none⟩), .pointer (some ⟨w.heap.size,0,none⟩), .int .u64 150] 155)) (by simp);have hlt:1<w.heap.size:=World.block_lt_of_cell? w ⟨1,0,none⟩ hg
 have hg2:((w.alloc (.cells #[.pointer (some ⟨tb,0,none⟩)] 118)).alloc (.cells #[.pointer (some ⟨6,118,none⟩), .pointer (some ⟨w.heap.size,0,none⟩), .int .u64 150] 155)).cell? ⟨1,0,none⟩=some (.iface 207 (.agg #[.pointer (some ⟨6,71,none⟩)])):=by
  rw [World.cell?_alloc_lt _ _ ⟨1,0,none⟩ (by simp;try omega),World.cell?_alloc_lt _ _ ⟨1,0,none⟩ hlt];exact hg
 have htl:tb<w.heap.size:=World.block_lt_of_cell? w ⟨tb,0,none⟩ ht0;have el:=elemV ⟨w.heap.size,0,none⟩ ⟨tb,0,none⟩ (((w.alloc (.cells #[.pointer (some ⟨tb,0,none⟩)] 118)).alloc (.cells #[.pointer (some ⟨6,118,none⟩), .pointer (some ⟨w.heap.size,0,none⟩), .int .u64 150] 155)).alloc (.cells #[.pointer (some ⟨6,118,none⟩), .pointer (some ⟨w.heap.size,0,none⟩), .int .u64 150] 155)) (by rw [World.cell?_alloc_lt _ _ ⟨w.heap.size,0,none⟩ (by simp;omega)];simp)
 have st:=setS ⟨tb,0,none⟩ ⟨w.heap.size+1+1+1,0,none⟩ c old ((((w.alloc (.cells #[.pointer (some ⟨tb,0,none⟩)] 118)).alloc (.cells #[.pointer (some ⟨6,118,none⟩), .pointer (some ⟨w.heap.size,0,none⟩), .int .u64 150] 155)).alloc (.cells #[.pointer (some ⟨6,118,none⟩), .pointer (some ⟨w.heap.size,0,none⟩), .int .u64 150] 155)).alloc (.cells #[.int .i64 c] 116))
  (by rw [World.cell?_alloc_at _ _ _ _ (by simp)];rfl) rfl
  (by rw [World.cell?_alloc_lt _ _ ⟨tb,0,none⟩ (by simp;omega),World.cell?_alloc_lt _ _ ⟨tb,0,none⟩ (by simp;omega),World.cell?_alloc_lt _ _ ⟨tb,0,none⟩ (by simp;omega),World.cell?_alloc_lt _ _ ⟨tb,0,none⟩ htl];exact ht0)
  (by rw [World.frozen?_alloc_old _ _ ⟨tb,0,none⟩ (by simp;omega),World.frozen?_alloc_old _ _ ⟨tb,0,none⟩ (by simp;omega),World.frozen?_alloc_old _ _ ⟨tb,0,none⟩ (by simp;omega),World.frozen?_alloc_old _ _ ⟨tb,0,none⟩ (Nat.ne_of_lt htl)];exact hf0) rfl
 go_enter Tryz.func57,Tryz.ntmps57
 go_wp2
 refine wp_loop_rounds 1 ?_;rw [rounds_succ];go_wp2
 go_ret
 exact ⟨rfl,rfl⟩

end WVAs
end
section
set_option linter.unusedSimpArgs false
open Go.RowKit
namespace WVfs
def fault (c:Int):Value:= .iface 116 (.agg #[.int .i64 c])
set_option maxRecDepth 100000 in
set_option maxHeartbeats 2000000 in
theorem yd8 (c:Int) (w:World) (hg:w.cell? ⟨1,0,none⟩=some (.iface 207 (.agg #[.pointer (some ⟨6,71,none⟩)]))):
  Calls Tryz.prog 29 #[fault c] w fun e w'=>e= .returned (vill c)∧Below w.heap.size w w':=by
 unfold fault vill;have b0:Below w.heap.size w ((w.alloc (.cells #[.slice none 0 0, .slice none 0 0, .slice none 0 0, .int .i64 0, .string ⟨#[]⟩, .slice none 0 0, .int .i64 0, .int .i64 0, .int .i64 0] 35)).alloc (.cells #[.int .i64 0] 116)):=(bE0).alloc (by simp) _;have V0:=(Mem.Blk.new w #[.slice none 0 0, .slice none 0 0, .slice none 0 0, .int .i64 0, .string ⟨#[]⟩, .slice none 0 0, .int .i64 0, .int .i64 0, .int .i64 0] 35).alloc (.cells #[.int .i64 0] 116)
 have X0:Mem.Blk ((w.alloc (.cells #[.slice none 0 0, .slice none 0 0, .slice none 0 0, .int .i64 0, .string ⟨#[]⟩, .slice none 0 0, .int .i64 0, .int .i64 0, .int .i64 0] 35)).alloc (.cells #[.int .i64 0] 116)) (w.heap.size+1) #[.int .i64 0] 116:=by
  have h:=Mem.Blk.new (w.alloc (.cells #[.slice none 0 0, .slice none 0 0, .slice none 0 0, .int .i64 0, .string ⟨#[]⟩, .slice none 0 0, .int .i64 0, .int .i64 0, .int .i64 0] 35)) #[.int .i64 0] 116;rw [show (w.alloc (.cells #[.slice none 0 0, .slice none 0 0, .slice none 0 0, .int .i64 0, .string ⟨#[]⟩, .slice none 0 0, .int .i64 0, .int .i64 0, .int .i64 0] 35)).heap.size=w.heap.size+1 by simp] at h;exact h
 have hlt:1<w.heap.size:=World.block_lt_of_cell? w ⟨1,0,none⟩ hg;have hg1:=(b0.cell (p:=⟨1,0,none⟩) hlt).trans hg;have KB:=hide b0;have KV:=hide V0;have KX:=hide X0;have x0:=X0.cell 0;have x1:=X0.fr 0;simp only [kGs] at x0;have HA:=hide (WVAs.as_hit c (w.heap.size+1) (.int .i64 0) _ hg1 x0 x1);clear b0 V0 X0 x0 x1 hg hg1 hlt;go_enter Tryz.func29,Tryz.ntmps29
 go_wp2_with fail
 generalize (w.alloc (.cells #[.slice none 0 0, .slice none 0 0, .slice none 0 0, .int .i64 0, .string ⟨#[]⟩, .slice none 0 0, .int .i64 0, .int .i64 0, .int .i64 0] 35)).alloc (.cells #[.int .i64 0] 116)=w2 at HA KB KV KX ⊢;refine (za HA).mono ?_;rintro e w3 ⟨rfl,rfl⟩;have b3:Below w2.heap.size w2 ((((w2.alloc (.cells #[.pointer (some ⟨w.heap.size+1,0,none⟩)] 118)).alloc (.cells #[.pointer (some ⟨6,118,none⟩), .pointer (some ⟨w2.heap.size,0,none⟩), .int .u64 150] 155)).alloc (.cells #[.pointer (some ⟨6,118,none⟩), .pointer (some ⟨w2.heap.size,0,none⟩), .int .u64 150] 155)).alloc (.cells #[.int .i64 c] 116)):=(((bE0).alloc (by simp) _).alloc (by simp;omega) _).alloc (by simp;omega) _;have V3:=(za KV).call b3
 have X3:=(za KX).call b3;have B3:=(za KB).trans (b3.mono (za KB).size);clear HA KV KX KB b3;generalize (((w2.alloc (.cells #[.pointer (some ⟨w.heap.size+1,0,none⟩)] 118)).alloc (.cells #[.pointer (some ⟨6,118,none⟩), .pointer (some ⟨w2.heap.size,0,none⟩), .int .u64 150] 155)).alloc (.cells #[.pointer (some ⟨6,118,none⟩), .pointer (some ⟨w2.heap.size,0,none⟩), .int .u64 150] 155)).alloc (.cells #[.int .i64 c] 116)=w3 at V3 X3 B3 ⊢;have X4:=X3.put 0 (.int .i64 c);simp only [kB3,kB4] at X4;have V4:=V3.far ⟨w.heap.size+1,0,none⟩ (.int .i64 c) (by show w.heap.size≠w.heap.size+1;omega);have B4:=hide (B3.setCell (p:=⟨w.heap.size+1,0,none⟩) (Nat.le_succ _) (.int .i64 c))
 generalize w3.setCell ⟨w.heap.size+1,0,none⟩ (.int .i64 c)=w4 at X4 V4 B4 ⊢;have x0:=X4.cell 0;obtain ⟨⟨d0,d1,d2,d3,d4,d5,d6,d7,d8⟩,f0,f1,f2,f3,f4,f5,f6,f7,f8⟩:=jf9 V4;simp only [kGs] at x0;clear X3 V3 B3;go_wp2
 refine bodyPost_ret (v:= .agg #[.slice none 0 0, .slice none 0 0, .slice none 0 0, .int .i64 0, .string ⟨#[]⟩, .slice none 0 0, .int .i64 0, .int .i64 0, .int .i64 c]) (by simp [results,Tryz.results29,go_sem,d0,d1,d2,d3,d4,d5,d6,d7,d8]) rfl ⟨rfl,?_⟩;refine Below.setCell (Below.setCell (Below.setCell (Below.setCell (Below.setCell (Below.setCell (Below.setCell (Below.setCell (Below.setCell (za B4) ?_ _) ?_ _) ?_ _) ?_ _) ?_ _) ?_ _) ?_ _) ?_ _) ?_ _ <;> exact Nat.le_refl _
theorem assert_file (d:ByteArray) (t:Int) (w:World):(Instr.typeAssert (.iface 124 (.agg #[.string d, .int .i64 t])) 120 124 true).run Tryz.prog w= .ok (.tuple #[.agg #[.string d, .int .i64 t], .bool true]) w:=by kernel_rfl
theorem assert_dir (m:Option Nat) (n:Int) (v:Value) (p:ByteArray) (w:World):(Instr.typeAssert (.iface 175 (.agg #[.map m, .int .i64 n,v, .string p])) 120 124 true).run Tryz.prog w= .ok (.tuple #[.agg #[.string ⟨#[]⟩, .int .i64 0], .bool false]) w:=by kernel_rfl
theorem method_dir (m:Option Nat) (n:Int) (v:Value) (p:ByteArray) (w:World):(Go.method 411 175 (.agg #[.map m, .int .i64 n,v, .string p]) "loop.example/g00449/impl.notAnother").run Tryz.prog w= .ok (194, .agg #[.map m, .int .i64 n,v, .string p]) w:=by kernel_rfl
set_option maxRecDepth 100000 in
theorem file_of (d:ByteArray) (t:Int) (w:World):
  Calls Tryz.prog 59 #[.iface 124 (.agg #[.string d, .int .i64 t])] w fun e w'=>e= .returned (.tuple #[.agg #[.string d, .int .i64 t], .nilIface])∧Below w.heap.size w w':=by
 have hA:=assert_file d t (w.alloc (.cells #[.string ⟨#[]⟩, .int .i64 0] 124));go_enter Tryz.func59,Tryz.ntmps59
 go_wp2
 have V0:=(Mem.Blk.new w #[.string d, .int .i64 t] 124).alloc (.cells #[.string d, .int .i64 t] 124);obtain ⟨d0,d1⟩:=jc2 V0;refine bodyPost_ret (v:= .tuple #[.agg #[.string d, .int .i64 t], .nilIface]) (by simp [results,Tryz.results59,go_sem,d0,d1]) rfl ⟨rfl,?_⟩;exact (bE0).alloc (by simp) _
set_option maxRecDepth 100000 in
theorem file_none (m:Option Nat) (n:Int) (v:Value) (p:ByteArray) (w:World):
  Calls Tryz.prog 59 #[.iface 175 (.agg #[.map m, .int .i64 n,v, .string p])] w fun e w'=>e= .returned (.tuple #[.agg #[.string ⟨#[]⟩, .int .i64 0],fault 11])∧Below w.heap.size w w':=by
 have hA:=assert_dir m n v p (w.alloc (.cells #[.string ⟨#[]⟩, .int .i64 0] 124));have hM:=method_dir m n v p;unfold fault;go_enter Tryz.func59,Tryz.ntmps59
 go_wp2
 have V0:=((Mem.Blk.new w #[.string ⟨#[]⟩, .int .i64 0] 124).alloc (.cells #[.string ⟨#[]⟩, .int .i64 0] 124)).alloc (.cells #[.map m, .int .i64 n,v, .string p] 175);obtain ⟨d0,d1⟩:=jc2 V0;refine bodyPost_ret (v:= .tuple #[.agg #[.string ⟨#[]⟩, .int .i64 0], .iface 116 (.agg #[.int .i64 11])]) (by simp [results,Tryz.results59,go_sem,d0,d1]) rfl ⟨rfl,?_⟩;exact ((bE0).alloc (by simp) _).alloc (by simp;omega) _
end WVfs
end
section
open Go.RowKit Go.Maps
namespace zg9
set_option linter.unusedSimpArgs false in
set_option maxRecDepth 100000 in
set_option maxHeartbeats 2000000 in
theorem at_some (B N:Nat) (D:DataW Unit) (p:ByteArray) (m:Pl.Nd) (w:World) (hp:p.size≤1048576) (hown:w.ownsMap Tryz.prog 9 MapN.elem B N D) (h1:D.atKey (MapN.key p) (MapN.dat ⟨⟨#[]⟩,0,⟨#[]⟩,0,0⟩)=MapN.dat m) (t:Bool) (h2:Maps.has D (MapN.key p)=t):
  Calls Tryz.prog 192 #[.map (some B), .string p] w fun e w'=>e= .returned (.tuple #[m.val, .bool t])∧Below w.heap.size w w':=by
 have hkey:=MapN.zl8 (p:=p) (by unfold maxLen;omega);have HM:=hide (zm9.ze4 hown ((Below.refl _ _).alloc (Nat.le_refl _) (.cells #[.string ⟨#[]⟩, .int .i64 0, .string ⟨#[]⟩, .int .i64 0, .int .i64 0] 56)));have ha:=hide h1;have ha2:=hide h2;clear h1 h2 hown;obtain ⟨mp,mk,md,mt,mm⟩:=m;go_enter Tryz.func192,Tryz.ntmps192
 go_wp2_with (at_lookup;refine MapN.look_ok _ rfl _ _ 166 rfl 9 56 MapN.law Tryz.underlying166 (MapN.za3 _) B N D rfl (za HM) _ _ rfl hkey ⟨mp,mk,md,mt,mm⟩ (za ha) t (za ha2) ?_)
 refine bodyPost_ret (v:= .tuple #[.agg #[.string mp, .int .i64 mk, .string md, .int .i64 mt, .int .i64 mm], .bool t]) (by simp [results,Tryz.results192,go_sem]) rfl ⟨rfl,?_⟩
 repeat first |exact Below.refl _ _|refine Below.setCell ?_ (by simp) _|refine Below.alloc ?_ (by simp) _
end zg9
end
section

theorem wp_merge {P:Program} {code:Code} {Q:Exit→Act→World→Prop} {T:Array Value} {D:List _} {w:World} (R:Array Value→Array Value→World→Prop)
  (h:code.wp P (fun e a W=>e= .normal∧a.defers=D∧R T a.tmps W) ⟨T,D⟩ w) (h2:∀T' W,R T T' W→Q .normal ⟨T',D⟩ W):code.wp P Q ⟨T,D⟩ w:=
 Code.wp_mono (fun e a W ⟨h1,h3,h4⟩=>by
  obtain ⟨t,d⟩:=a;simp only at h3;subst h1 h3
  exact h2 _ _ h4) h
end
section
open Go.RowKit Go.Maps
namespace zg9
set_option linter.unusedSimpArgs false in
set_option maxRecDepth 100000 in
set_option maxHeartbeats 2000000 in
theorem up_any (s:Pl.Sg) (w:World) (hh:s.have'.length=4) (hm:0≤s.node.mark∧s.node.mark≤1000):
  Calls Tryz.prog 151 #[.agg s.cs.toArray] w fun e w'=>e= .returned (.agg (Pl.upS s).cs.toArray)∧Below w.heap.size w w':=by
 obtain ⟨told,⟨sp,sk,sd,st,sm⟩,hv⟩:=s
 obtain ⟨h0,h1,h2,h3,rfl⟩:∃h0 h1 h2 h3,hv=[h0,h1,h2,h3]:=by
  match hv,hh with
  | [a,b,c,d],_=>exact ⟨a,b,c,d,rfl⟩
 simp only at hm;have hw:IntKind.i64.wrap (sm - 1)=sm - 1:=by simp only [IntKind.wrap_i64];omega
 generalize hU:Pl.upS ⟨told,⟨sp,sk,sd,st,sm⟩,[h0,h1,h2,h3]⟩=U;simp only [Pl.upS] at hU;rw [show (Pl.Sg.cs ⟨told,⟨sp,sk,sd,st,sm⟩,[h0,h1,h2,h3]⟩).toArray=#[.bool told, .string sp, .int .i64 sk, .string sd, .int .i64 st, .int .i64 sm, .bool h0, .bool h1, .bool h2, .bool h3] from rfl];by_cases h5:sm - 1<0
 ·have hM:max (sm - 1) 0=0:=by omega
  rw [hM] at hU;by_cases hk:sk=0
  ·subst hk;rw [if_pos ⟨rfl,rfl⟩] at hU;have EU:=hide hU.symm;clear hU;go_enter Tryz.func151,Tryz.ntmps151
   go_wp2
   refine bodyPost_ret (v:= .agg #[.bool false, .string ⟨#[]⟩, .int .i64 0, .string ⟨#[]⟩, .int .i64 0, .int .i64 0, .bool false, .bool false, .bool false, .bool false]) (by simp [results,Tryz.results151,go_sem]) rfl ⟨by rw [za EU];rfl,?_⟩
   repeat first |exact Below.refl _ _|refine Below.setCell ?_ (by simp) _|refine Below.alloc ?_ (by simp) _
  ·have t1:(sk==0)=false:=by simpa using hk
   rw [if_neg (fun h=>hk h.1)] at hU;have EU:=hide hU.symm;clear hU;go_enter Tryz.func151,Tryz.ntmps151
   go_wp2
   refine bodyPost_ret (v:= .agg #[.bool told, .string sp, .int .i64 sk, .string sd, .int .i64 st, .int .i64 (0), .bool h0, .bool h1, .bool h2, .bool h3]) (by simp [results,Tryz.results151,go_sem]) rfl ⟨by rw [za EU];rfl,?_⟩
   repeat first |exact Below.refl _ _|refine Below.setCell ?_ (by simp) _|refine Below.alloc ?_ (by simp) _
 ·have hM:max (sm - 1) 0=sm - 1:=by omega
  rw [hM] at hU;by_cases hk:sk=0
  ·subst hk;by_cases h6:sm=1
   ·subst h6;rw [if_pos ⟨rfl,by omega⟩] at hU;have EU:=hide hU.symm;clear hU;go_enter Tryz.func151,Tryz.ntmps151
    go_wp2
    refine bodyPost_ret (v:= .agg #[.bool false, .string ⟨#[]⟩, .int .i64 0, .string ⟨#[]⟩, .int .i64 0, .int .i64 0, .bool false, .bool false, .bool false, .bool false]) (by simp [results,Tryz.results151,go_sem]) rfl ⟨by rw [za EU];rfl,?_⟩
    repeat first |exact Below.refl _ _|refine Below.setCell ?_ (by simp) _|refine Below.alloc ?_ (by simp) _
   ·have t2:(sm - 1==0)=false:=by simp;omega
    rw [if_neg (fun h=>by omega)] at hU;have EU:=hide hU.symm;clear hU;go_enter Tryz.func151,Tryz.ntmps151
    go_wp2
    refine bodyPost_ret (v:= .agg #[.bool told, .string sp, .int .i64 0, .string sd, .int .i64 st, .int .i64 (sm - 1), .bool h0, .bool h1, .bool h2, .bool h3]) (by simp [results,Tryz.results151,go_sem]) rfl ⟨by rw [za EU];rfl,?_⟩
    repeat first |exact Below.refl _ _|refine Below.setCell ?_ (by simp) _|refine Below.alloc ?_ (by simp) _
  ·have t1:(sk==0)=false:=by simpa using hk
   rw [if_neg (fun h=>hk h.1)] at hU;have EU:=hide hU.symm;clear hU;go_enter Tryz.func151,Tryz.ntmps151
   go_wp2
   refine bodyPost_ret (v:= .agg #[.bool told, .string sp, .int .i64 sk, .string sd, .int .i64 st, .int .i64 (sm - 1), .bool h0, .bool h1, .bool h2, .bool h3]) (by simp [results,Tryz.results151,go_sem]) rfl ⟨by rw [za EU];rfl,?_⟩
   repeat first |exact Below.refl _ _|refine Below.setCell ?_ (by simp) _|refine Below.alloc ?_ (by simp) _
end zg9
end
end Go.Proofs.YtgdjjncmocppeaaGreatDoor
