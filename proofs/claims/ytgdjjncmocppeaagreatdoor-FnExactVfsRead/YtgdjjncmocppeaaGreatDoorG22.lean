/- Several texts of one claim in one file: WVAs, WVAsB, WVfs1, WNodeAt, Merge, WLevelUp, MemWk. -/
import Derived.Stop.Asserts
import Derived.RowKitTokens
import Derived.Test.YtgdjjncmocppeaaGreatDoorWVo
import Derived.Test.YtgdjjncmocppeaaGreatDoorG21
import Derived.Test.YtgdjjncmocppeaaGreatDoorG17
namespace Go.Proofs.YtgdjjncmocppeaaGreatDoor
section
open Go.RowKit Go.Extern.Stop Go.Stop Go.Extern
namespace WVAs

theorem valueP (t:Addr) (w:World):(ReflectliteValue.unpack (.iface 118 (.pointer (some t)))).run Tryz.prog w
  = .ok (.agg #[.pointer (some ⟨6,118,none⟩), .pointer (some ⟨w.heap.size,0,none⟩), .int .u64 150]) (w.alloc (.cells #[.pointer (some t)] 118)):=by kernel_rfl
theorem typeP (a:Addr) (w:World):(ReflectliteValue.methodAny (ReflectliteValue.valueError "reflectlite.Value.Type" 0) (fun t _ _ _=>ReflectliteType.toType t) #[.agg #[.pointer (some ⟨6,118,none⟩), .pointer (some a), .int .u64 150]]).run Tryz.prog w
  = .ok (.iface 207 (.agg #[.pointer (some ⟨6,118,none⟩)])) w:=by kernel_rfl
theorem methodKind (h:Value) (w:World):(Go.method 411 207 (.agg #[h]) "Kind").run Tryz.prog w= .ok (183,h) w:=by kernel_rfl
theorem kindP (w:World):((ReflectliteType.abiMethod fun t=>(fun a:Nat=>Value.int IntKind.u8 (a:Int)) <$> Rtype.kind t) #[.pointer (some ⟨6,118,none⟩)]).run Tryz.prog w= .ok (.int .u8 22) w:=by kernel_rfl
theorem kindS (w:World):((ReflectliteType.abiMethod fun t=>(fun a:Nat=>Value.int IntKind.u8 (a:Int)) <$> Rtype.kind t) #[.pointer (some ⟨6,116,none⟩)]).run Tryz.prog w= .ok (.int .u8 25) w:=by kernel_rfl

theorem rlm (z:Sem Value) (f:TypeId→Addr→Nat→Nat→Sem Value) (v:Value):
  ∃g,ReflectliteValue.method z f #[v]=(ReflectliteValue.parts v>>=g)∧∀t a fl,g (some (t,a,fl))=f t a fl (fl % 32):=⟨_,rfl,fun _ _ _=>rfl⟩
theorem partsP (a:Addr) (w:World):(ReflectliteValue.parts (.agg #[.pointer (some ⟨6,118,none⟩), .pointer (some a), .int .u64 150])).run Tryz.prog w= .ok (some (118,a,150)) w:=by kernel_rfl
theorem isNilP (a p:Addr) (W:World) (ha:W.cell? a=some (.pointer (some p))):
  (ReflectliteValue.method (ReflectliteValue.valueError "reflectlite.Value.IsNil" 0) ReflectliteValue.isNil #[.agg #[.pointer (some ⟨6,118,none⟩), .pointer (some a), .int .u64 150]]).run Tryz.prog W= .ok (.bool false) W:=by
 obtain ⟨g,hm,hg⟩:=rlm (ReflectliteValue.valueError "reflectlite.Value.IsNil" 0) ReflectliteValue.isNil (.agg #[.pointer (some ⟨6,118,none⟩), .pointer (some a), .int .u64 150]);rw [hm];simp only [Sem.run_bind,partsP,Result.andThen,hg];simp [ReflectliteValue.isNil,loadVar,isAgg,underlying,Tryz.underlying118,ha,Result.andThen]

theorem methodElem (h:Value) (w:World):(Go.method 411 207 (.agg #[h]) "Elem").run Tryz.prog w= .ok (198, .agg #[h]) w:=by kernel_rfl
theorem ye1 (h:Value) (w:World):(Go.method 411 207 (.agg #[h]) "Implements").run Tryz.prog w= .ok (199, .agg #[h]) w:=by kernel_rfl
theorem yb2 (h:Value) (w:World):(Go.method 411 207 (.agg #[h]) "AssignableTo").run Tryz.prog w= .ok (196, .agg #[h]) w:=by kernel_rfl
theorem elemT (w:World):(ReflectliteType.method ReflectliteType.elem #[.agg #[.pointer (some ⟨6,118,none⟩)]]).run Tryz.prog w= .ok (.iface 207 (.agg #[.pointer (some ⟨6,116,none⟩)])) w:=by kernel_rfl
theorem implementsS (w:World):(ReflectliteType.relation "Implements" ReflectliteType.implements_ #[.agg #[.pointer (some ⟨6,116,none⟩)], .iface 207 (.agg #[.pointer (some ⟨6,71,none⟩)])]).run Tryz.prog w= .ok (.bool true) w:=by kernel_rfl
theorem typeOfS (v:Value) (w:World):(ReflectliteType.typeOf #[.iface 116 v]).run Tryz.prog w= .ok (.iface 207 (.agg #[.pointer (some ⟨6,116,none⟩)])) w:=by kernel_rfl
theorem assignableS (w:World):(ReflectliteType.relation "AssignableTo" ReflectliteType.assignableTo #[.agg #[.pointer (some ⟨6,116,none⟩)], .iface 207 (.agg #[.pointer (some ⟨6,116,none⟩)])]).run Tryz.prog w= .ok (.bool true) w:=by kernel_rfl
theorem valueS (c:Int) (w:World):(ReflectliteValue.unpack (.iface 116 (.agg #[.int .i64 c]))).run Tryz.prog w
  = .ok (.agg #[.pointer (some ⟨6,116,none⟩), .pointer (some ⟨w.heap.size,0,none⟩), .int .u64 153]) (w.alloc (.cells #[.int .i64 c] 116)):=by kernel_rfl
theorem elemOfP (w:World):(Rtype.elem? 118).run Tryz.prog w= .ok (some 116) w:=by kernel_rfl
theorem mkS (p:Addr) (w:World):(ReflectliteValue.mk 116 p ReflectliteValue.flagAddr).run Tryz.prog w= .ok (.agg #[.pointer (some ⟨6,116,none⟩), .pointer (some p), .int .u64 409]) w:=by kernel_rfl
theorem elemV (a p:Addr) (W:World) (ha:W.cell? a=some (.pointer (some p))):
  (ReflectliteValue.method (ReflectliteValue.valueError "reflectlite.Value.Elem" 0) ReflectliteValue.elem #[.agg #[.pointer (some ⟨6,118,none⟩), .pointer (some a), .int .u64 150]]).run Tryz.prog W
   = .ok (.agg #[.pointer (some ⟨6,116,none⟩), .pointer (some p), .int .u64 409]) W:=by
 obtain ⟨g,hm,hg⟩:=rlm (ReflectliteValue.valueError "reflectlite.Value.Elem" 0) ReflectliteValue.elem (.agg #[.pointer (some ⟨6,118,none⟩), .pointer (some a), .int .u64 150]);rw [hm];simp only [Sem.run_bind,partsP,Result.andThen,hg];simp [ReflectliteValue.elem,loadVar,isAgg,underlying,Tryz.underlying118,ha,Result.andThen,elemOfP,mkS]
theorem partsSa (a:Addr) (w:World):(ReflectliteValue.parts (.agg #[.pointer (some ⟨6,116,none⟩), .pointer (some a), .int .u64 409])).run Tryz.prog w= .ok (some (116,a,409)) w:=by kernel_rfl
theorem partsS (a:Addr) (w:World):(ReflectliteValue.parts (.agg #[.pointer (some ⟨6,116,none⟩), .pointer (some a), .int .u64 153])).run Tryz.prog w= .ok (some (116,a,153)) w:=by kernel_rfl
theorem directS (w:World):(Rtype.directlyAssignable 116 116).run Tryz.prog w= .ok true w:=by kernel_rfl
end WVAs
end
section
open Go.RowKit Go.Extern.Stop Go.Stop Go.Extern
namespace WVAs
theorem rls (v x:Value):∃g:Option (TypeId × Addr × Nat)→Option (TypeId × Addr × Nat)→Sem Value,ReflectliteValue.set #[v,x]=(ReflectliteValue.parts v>>=fun p=>ReflectliteValue.parts x>>=fun q=>g p q)∧
  ∀ (P:Program) (W W':World) dst a fl src b h val,(fl / ReflectliteValue.flagAddr % 2==0)=false→(loadVar src b).run P W= .ok val W→(Rtype.directlyAssignable dst src).run P W= .ok true W→(storeVar dst a val).run P W= .ok () W'→
   (g (some (dst,a,fl)) (some (src,b,h))).run P W= .ok (.tuple #[]) W':=by
 refine ⟨_,rfl,?_⟩;intro P W W' dst a fl src b h val hf hl hd hst;simp [hf,hl,hd,hst,Result.andThen]
theorem loadS (b:Addr) (c:Int) (W:World) (hb:W.cell? b=some (.int .i64 c)) (hs:b.spot=none):(loadVar 116 b).run Tryz.prog W= .ok (.agg #[.int .i64 c]) W:=by
 have ha:b.add 0=b:=by obtain ⟨x,y,z⟩:=b;cases hs;rfl
 have h:(loadCells b 1).run Tryz.prog W= .ok #[.int .i64 c] W:=run_loadCells_list (P:=Tryz.prog) W b [.int .i64 c] (fun j v hj=>by
  match j,hj with
  |0,hj=>rw [ha,hb];simpa using hj
  |j+1,hj=>simp at hj)
 simp [loadVar,h,Result.andThen]
theorem storeS (t:Addr) (c:Int) (old:Value) (W:World) (ht:W.cell? t=some old) (hf:W.frozen? t=false) (hs:t.spot=none):(storeVar 116 t (.agg #[.int .i64 c])).run Tryz.prog W= .ok () (W.setCell t (.int .i64 c)):=by
 have ha:t.add 0=t:=by obtain ⟨x,y,z⟩:=t;cases hs;rfl
 simp [storeVar,Value.cells,storeCells,ha]
 rw [run_store Tryz.prog W t _ _ (by rfl)];simp [ht,hf]
theorem setS (ta b:Addr) (c:Int) (old:Value) (W:World) (hb:W.cell? b=some (.int .i64 c)) (hbs:b.spot=none) (ht:W.cell? ta=some old) (hf:W.frozen? ta=false) (hts:ta.spot=none):
  (ReflectliteValue.set #[.agg #[.pointer (some ⟨6,116,none⟩), .pointer (some ta), .int .u64 409], .agg #[.pointer (some ⟨6,116,none⟩), .pointer (some b), .int .u64 153]]).run Tryz.prog W
   = .ok (.tuple #[]) (W.setCell ta (.int .i64 c)):=by
 obtain ⟨g,hs,hg⟩:=rls (.agg #[.pointer (some ⟨6,116,none⟩), .pointer (some ta), .int .u64 409]) (.agg #[.pointer (some ⟨6,116,none⟩), .pointer (some b), .int .u64 153]);rw [hs];simp only [Sem.run_bind,partsSa,partsS,Result.andThen];exact hg _ W _ 116 ta 409 116 b 153 _ rfl (loadS b c W hb hbs) (directS W) (storeS ta c old W ht hf hts)

set_option maxHeartbeats 4000000 in
theorem as_hit (c:Int) (tb:Nat) (old:Value) (w:World) (hg:w.cell? ⟨1,0,none⟩=some (.iface 207 (.agg #[.pointer (some ⟨6,71,none⟩)]))) (ht0:w.cell? ⟨tb,0,none⟩=some old) (hf0:w.frozen? ⟨tb,0,none⟩=false):
  Calls Tryz.prog 57 #[.iface 116 (.agg #[.int .i64 c]), .iface 118 (.pointer (some ⟨tb,0,none⟩))] w fun ev w'=>ev= .returned (.bool true)∧
   w'=((((w.alloc (.cells #[.pointer (some ⟨tb,0,none⟩)] 118)).alloc (.cells #[.pointer (some ⟨6,118,none⟩), .pointer (some ⟨w.heap.size,0,none⟩), .int .u64 150] 155)).alloc (.cells #[.pointer (some ⟨6,118,none⟩), .pointer (some ⟨w.heap.size,0,none⟩), .int .u64 150] 155)).alloc (.cells #[.int .i64 c] 116)).setCell ⟨tb,0,none⟩ (.int .i64 c):=by
 have h1:=@run_callFunc_extern Tryz.prog 85 _ (fun args=>ReflectliteValue.unpack (args.getD 0 (.tuple #[]))) Tryz.func85 (by kernel_rfl) (by kernel_rfl) (by kernel_rfl) (by kernel_rfl);have h2:=@run_callFunc_extern Tryz.prog 86 _ (ReflectliteValue.methodAny (ReflectliteValue.valueError "reflectlite.Value.Type" 0) (fun t _ _ _=>ReflectliteType.toType t)) Tryz.func86 (by kernel_rfl) (by kernel_rfl) (by kernel_rfl) (by kernel_rfl);have h3:=@run_callFunc_extern Tryz.prog 87 _ (ReflectliteValue.method (ReflectliteValue.valueError "reflectlite.Value.IsNil" 0) ReflectliteValue.isNil) Tryz.func87 (by kernel_rfl) (by kernel_rfl) (by kernel_rfl) (by kernel_rfl)
 have h4:=@run_callFunc_extern Tryz.prog 183 _ (ReflectliteType.abiMethod fun t=>do pure (.int .u8 (←Rtype.kind t))) Tryz.func183 (by kernel_rfl) (by kernel_rfl) (by kernel_rfl) (by kernel_rfl);have h5:=@run_callFunc_extern Tryz.prog 198 _ (ReflectliteType.method ReflectliteType.elem) Tryz.func198 (by kernel_rfl) (by kernel_rfl) (by kernel_rfl) (by kernel_rfl);have h6:=@run_callFunc_extern Tryz.prog 199 _ (ReflectliteType.relation "Implements" ReflectliteType.implements_) Tryz.func199 (by kernel_rfl) (by kernel_rfl) (by kernel_rfl) (by kernel_rfl)
 have h7:=@run_callFunc_extern Tryz.prog 114 _ ReflectliteType.typeOf Tryz.func114 (by kernel_rfl) (by kernel_rfl) (by kernel_rfl) (by kernel_rfl);have h8:=@run_callFunc_extern Tryz.prog 196 _ (ReflectliteType.relation "AssignableTo" ReflectliteType.assignableTo) Tryz.func196 (by kernel_rfl) (by kernel_rfl) (by kernel_rfl) (by kernel_rfl);have h9:=@run_callFunc_extern Tryz.prog 115 _ (ReflectliteValue.method (ReflectliteValue.valueError "reflectlite.Value.Elem" 0) ReflectliteValue.elem) Tryz.func115 (by kernel_rfl) (by kernel_rfl) (by kernel_rfl) (by kernel_rfl)
 have h10:=@run_callFunc_extern Tryz.prog 116 _ ReflectliteValue.set Tryz.func116 (by kernel_rfl) (by kernel_rfl) (by kernel_rfl) (by kernel_rfl);have g1:=typeOfS;have g2:=yb2;have g3:=assignableS;have g4:=valueS;have g5:=valueP;have g6:=typeP;have g7:=methodKind;have g8:=methodElem;have g9:=ye1;have g10:=kindP;have g11:=kindS;have g12:=elemT;have g13:=implementsS;have n8:=isNilP ⟨w.heap.size,0,none⟩ ⟨tb,0,none⟩ ((w.alloc (.cells #[.pointer (some ⟨tb,0,none⟩)] 118)).alloc (.cells #[.pointer (some ⟨6,118,none⟩), .pointer (some ⟨w.heap.size,0,none⟩), .int .u64 150] 155)) (by simp);have hlt:1<w.heap.size:=World.block_lt_of_cell? w ⟨1,0,none⟩ hg
 have hg2:((w.alloc (.cells #[.pointer (some ⟨tb,0,none⟩)] 118)).alloc (.cells #[.pointer (some ⟨6,118,none⟩), .pointer (some ⟨w.heap.size,0,none⟩), .int .u64 150] 155)).cell? ⟨1,0,none⟩=some (.iface 207 (.agg #[.pointer (some ⟨6,71,none⟩)])):=by
  rw [World.cell?_alloc_lt _ _ ⟨1,0,none⟩ (by simp;try omega),World.cell?_alloc_lt _ _ ⟨1,0,none⟩ hlt];exact hg
 have htl:tb<w.heap.size:=World.block_lt_of_cell? w ⟨tb,0,none⟩ ht0;have el:=elemV ⟨w.heap.size,0,none⟩ ⟨tb,0,none⟩ (((w.alloc (.cells #[.pointer (some ⟨tb,0,none⟩)] 118)).alloc (.cells #[.pointer (some ⟨6,118,none⟩), .pointer (some ⟨w.heap.size,0,none⟩), .int .u64 150] 155)).alloc (.cells #[.pointer (some ⟨6,118,none⟩), .pointer (some ⟨w.heap.size,0,none⟩), .int .u64 150] 155)) (by rw [World.cell?_alloc_lt _ _ ⟨w.heap.size,0,none⟩ (by simp;omega)];simp)
 have st:=setS ⟨tb,0,none⟩ ⟨w.heap.size+1+1+1,0,none⟩ c old ((((w.alloc (.cells #[.pointer (some ⟨tb,0,none⟩)] 118)).alloc (.cells #[.pointer (some ⟨6,118,none⟩), .pointer (some ⟨w.heap.size,0,none⟩), .int .u64 150] 155)).alloc (.cells #[.pointer (some ⟨6,118,none⟩), .pointer (some ⟨w.heap.size,0,none⟩), .int .u64 150] 155)).alloc (.cells #[.int .i64 c] 116))
  (by rw [World.cell?_alloc_at _ _ _ _ (by simp)];rfl) rfl
  (by rw [World.cell?_alloc_lt _ _ ⟨tb,0,none⟩ (by simp;omega),World.cell?_alloc_lt _ _ ⟨tb,0,none⟩ (by simp;omega),World.cell?_alloc_lt _ _ ⟨tb,0,none⟩ (by simp;omega),World.cell?_alloc_lt _ _ ⟨tb,0,none⟩ htl];exact ht0)
  (by rw [World.frozen?_alloc_old _ _ ⟨tb,0,none⟩ (by simp;omega),World.frozen?_alloc_old _ _ ⟨tb,0,none⟩ (by simp;omega),World.frozen?_alloc_old _ _ ⟨tb,0,none⟩ (by simp;omega),World.frozen?_alloc_old _ _ ⟨tb,0,none⟩ (Nat.ne_of_lt htl)];exact hf0) rfl
 go_enter Tryz.func57,Tryz.ntmps57
 go_wp2
 refine wp_loop_rounds 1 ?_;rw [rounds_succ];go_wp2
 go_ret
 exact ⟨rfl,rfl⟩

end WVAs
end
section
set_option linter.unusedSimpArgs false
open Go.RowKit
namespace WVfs
def fault (c:Int):Value:= .iface 116 (.agg #[.int .i64 c])
set_option maxRecDepth 100000 in
set_option maxHeartbeats 2000000 in
theorem yd8 (c:Int) (w:World) (hg:w.cell? ⟨1,0,none⟩=some (.iface 207 (.agg #[.pointer (some ⟨6,71,none⟩)]))):
  Calls Tryz.prog 29 #[fault c] w fun e w'=>e= .returned (vill c)∧Below w.heap.size w w':=by
 unfold fault vill;have b0:Below w.heap.size w ((w.alloc (.cells #[.slice none 0 0, .slice none 0 0, .slice none 0 0, .int .i64 0, .string ⟨#[]⟩, .slice none 0 0, .int .i64 0, .int .i64 0, .int .i64 0] 35)).alloc (.cells #[.int .i64 0] 116)):=(bE0).alloc (by simp) _;have V0:=(Mem.Blk.new w #[.slice none 0 0, .slice none 0 0, .slice none 0 0, .int .i64 0, .string ⟨#[]⟩, .slice none 0 0, .int .i64 0, .int .i64 0, .int .i64 0] 35).alloc (.cells #[.int .i64 0] 116)
 have X0:Mem.Blk ((w.alloc (.cells #[.slice none 0 0, .slice none 0 0, .slice none 0 0, .int .i64 0, .string ⟨#[]⟩, .slice none 0 0, .int .i64 0, .int .i64 0, .int .i64 0] 35)).alloc (.cells #[.int .i64 0] 116)) (w.heap.size+1) #[.int .i64 0] 116:=by
  have h:=Mem.Blk.new (w.alloc (.cells #[.slice none 0 0, .slice none 0 0, .slice none 0 0, .int .i64 0, .string ⟨#[]⟩, .slice none 0 0, .int .i64 0, .int .i64 0, .int .i64 0] 35)) #[.int .i64 0] 116;rw [show (w.alloc (.cells #[.slice none 0 0, .slice none 0 0, .slice none 0 0, .int .i64 0, .string ⟨#[]⟩, .slice none 0 0, .int .i64 0, .int .i64 0, .int .i64 0] 35)).heap.size=w.heap.size+1 by simp] at h;exact h
 have hlt:1<w.heap.size:=World.block_lt_of_cell? w ⟨1,0,none⟩ hg;have hg1:=(b0.cell (p:=⟨1,0,none⟩) hlt).trans hg;have KB:=hide b0;have KV:=hide V0;have KX:=hide X0;have x0:=X0.cell 0;have x1:=X0.fr 0;simp only [kGs] at x0;have HA:=hide (WVAs.as_hit c (w.heap.size+1) (.int .i64 0) _ hg1 x0 x1);clear b0 V0 X0 x0 x1 hg hg1 hlt;go_enter Tryz.func29,Tryz.ntmps29
 go_wp2_with fail
 generalize (w.alloc (.cells #[.slice none 0 0, .slice none 0 0, .slice none 0 0, .int .i64 0, .string ⟨#[]⟩, .slice none 0 0, .int .i64 0, .int .i64 0, .int .i64 0] 35)).alloc (.cells #[.int .i64 0] 116)=w2 at HA KB KV KX ⊢;refine (za HA).mono ?_;rintro e w3 ⟨rfl,rfl⟩;have b3:Below w2.heap.size w2 ((((w2.alloc (.cells #[.pointer (some ⟨w.heap.size+1,0,none⟩)] 118)).alloc (.cells #[.pointer (some ⟨6,118,none⟩), .pointer (some ⟨w2.heap.size,0,none⟩), .int .u64 150] 155)).alloc (.cells #[.pointer (some ⟨6,118,none⟩), .pointer (some ⟨w2.heap.size,0,none⟩), .int .u64 150] 155)).alloc (.cells #[.int .i64 c] 116)):=(((bE0).alloc (by simp) _).alloc (by simp;omega) _).alloc (by simp;omega) _;have V3:=(za KV).call b3
 have X3:=(za KX).call b3;have B3:=(za KB).trans (b3.mono (za KB).size);clear HA KV KX KB b3;generalize (((w2.alloc (.cells #[.pointer (some ⟨w.heap.size+1,0,none⟩)] 118)).alloc (.cells #[.pointer (some ⟨6,118,none⟩), .pointer (some ⟨w2.heap.size,0,none⟩), .int .u64 150] 155)).alloc (.cells #[.pointer (some ⟨6,118,none⟩), .pointer (some ⟨w2.heap.size,0,none⟩), .int .u64 150] 155)).alloc (.cells #[.int .i64 c] 116)=w3 at V3 X3 B3 ⊢;have X4:=X3.put 0 (.int .i64 c);simp only [kB3,kB4] at X4;have V4:=V3.far ⟨w.heap.size+1,0,none⟩ (.int .i64 c) (by show w.heap.size≠w.heap.size+1;omega);have B4:=hide (B3.setCell (p:=⟨w.heap.size+1,0,none⟩) (Nat.le_succ _) (.int .i64 c))
 generalize w3.setCell ⟨w.heap.size+1,0,none⟩ (.int .i64 c)=w4 at X4 V4 B4 ⊢;have x0:=X4.cell 0;obtain ⟨⟨d0,d1,d2,d3,d4,d5,d6,d7,d8⟩,f0,f1,f2,f3,f4,f5,f6,f7,f8⟩:=jf9 V4;simp only [kGs] at x0;clear X3 V3 B3;go_wp2
 refine bodyPost_ret (v:= .agg #[.slice none 0 0, .slice none 0 0, .slice none 0 0, .int .i64 0, .string ⟨#[]⟩, .slice none 0 0, .int .i64 0, .int .i64 0, .int .i64 c]) (by simp [results,Tryz.results29,go_sem,d0,d1,d2,d3,d4,d5,d6,d7,d8]) rfl ⟨rfl,?_⟩;refine Below.setCell (Below.setCell (Below.setCell (Below.setCell (Below.setCell (Below.setCell (Below.setCell (Below.setCell (Below.setCell (za B4) ?_ _) ?_ _) ?_ _) ?_ _) ?_ _) ?_ _) ?_ _) ?_ _) ?_ _ <;> exact Nat.le_refl _
theorem assert_file (d:ByteArray) (t:Int) (w:World):(Instr.typeAssert (.iface 124 (.agg #[.string d, .int .i64 t])) 120 124 true).run Tryz.prog w= .ok (.tuple #[.agg #[.string d, .int .i64 t], .bool true]) w:=by kernel_rfl
theorem assert_dir (m:Option Nat) (n:Int) (v:Value) (p:ByteArray) (w:World):(Instr.typeAssert (.iface 175 (.agg #[.map m, .int .i64 n,v, .string p])) 120 124 true).run Tryz.prog w= .ok (.tuple #[.agg #[.string ⟨#[]⟩, .int .i64 0], .bool false]) w:=by kernel_rfl
theorem method_dir (m:Option Nat) (n:Int) (v:Value) (p:ByteArray) (w:World):(Go.method 411 175 (.agg #[.map m, .int .i64 n,v, .string p]) "loop.example/g00449/impl.notAnother").run Tryz.prog w= .ok (194, .agg #[.map m, .int .i64 n,v, .string p]) w:=by kernel_rfl
set_option maxRecDepth 100000 in
theorem file_of (d:ByteArray) (t:Int) (w:World):
  Calls Tryz.prog 59 #[.iface 124 (.agg #[.string d, .int .i64 t])] w fun e w'=>e= .returned (.tuple #[.agg #[.string d, .int .i64 t], .nilIface])∧Below w.heap.size w w':=by
 have hA:=assert_file d t (w.alloc (.cells #[.string ⟨#[]⟩, .int .i64 0] 124));go_enter Tryz.func59,Tryz.ntmps59
 go_wp2
 have V0:=(Mem.Blk.new w #[.string d, .int .i64 t] 124).alloc (.cells #[.string d, .int .i64 t] 124);obtain ⟨d0,d1⟩:=jc2 V0;refine bodyPost_ret (v:= .tuple #[.agg #[.string d, .int .i64 t], .nilIface]) (by simp [results,Tryz.results59,go_sem,d0,d1]) rfl ⟨rfl,?_⟩;exact (bE0).alloc (by simp) _
set_option maxRecDepth 100000 in
theorem file_none (m:Option Nat) (n:Int) (v:Value) (p:ByteArray) (w:World):
  Calls Tryz.prog 59 #[.iface 175 (.agg #[.map m, .int .i64 n,v, .string p])] w fun e w'=>e= .returned (.tuple #[.agg #[.string ⟨#[]⟩, .int .i64 0],fault 11])∧Below w.heap.size w w':=by
 have hA:=assert_dir m n v p (w.alloc (.cells #[.string ⟨#[]⟩, .int .i64 0] 124));have hM:=method_dir m n v p;unfold fault;go_enter Tryz.func59,Tryz.ntmps59
 go_wp2
 have V0:=((Mem.Blk.new w #[.string ⟨#[]⟩, .int .i64 0] 124).alloc (.cells #[.string ⟨#[]⟩, .int .i64 0] 124)).alloc (.cells #[.map m, .int .i64 n,v, .string p] 175);obtain ⟨d0,d1⟩:=jc2 V0;refine bodyPost_ret (v:= .tuple #[.agg #[.string ⟨#[]⟩, .int .i64 0], .iface 116 (.agg #[.int .i64 11])]) (by simp [results,Tryz.results59,go_sem,d0,d1]) rfl ⟨rfl,?_⟩;exact ((bE0).alloc (by simp) _).alloc (by simp;omega) _
end WVfs
end
section
open Go.RowKit Go.Maps
namespace zg9
set_option linter.unusedSimpArgs false in
set_option maxRecDepth 100000 in
set_option maxHeartbeats 2000000 in
theorem at_some (B N:Nat) (D:DataW Unit) (p:ByteArray) (m:Pl.Nd) (w:World) (hp:p.size≤1048576) (hown:w.ownsMap Tryz.prog 9 MapN.elem B N D) (h1:D.atKey (MapN.key p) (MapN.dat ⟨⟨#[]⟩,0,⟨#[]⟩,0,0⟩)=MapN.dat m) (t:Bool) (h2:Maps.has D (MapN.key p)=t):
  Calls Tryz.prog 192 #[.map (some B), .string p] w fun e w'=>e= .returned (.tuple #[m.val, .bool t])∧Below w.heap.size w w':=by
 have hkey:=MapN.zl8 (p:=p) (by unfold maxLen;omega);have HM:=hide (zm9.ze4 hown ((Below.refl _ _).alloc (Nat.le_refl _) (.cells #[.string ⟨#[]⟩, .int .i64 0, .string ⟨#[]⟩, .int .i64 0, .int .i64 0] 56)));have ha:=hide h1;have ha2:=hide h2;clear h1 h2 hown;obtain ⟨mp,mk,md,mt,mm⟩:=m;go_enter Tryz.func192,Tryz.ntmps192
 go_wp2_with (at_lookup;refine MapN.look_ok _ rfl _ _ 166 rfl 9 56 MapN.law Tryz.underlying166 (MapN.za3 _) B N D rfl (za HM) _ _ rfl hkey ⟨mp,mk,md,mt,mm⟩ (za ha) t (za ha2) ?_)
 refine bodyPost_ret (v:= .tuple #[.agg #[.string mp, .int .i64 mk, .string md, .int .i64 mt, .int .i64 mm], .bool t]) (by simp [results,Tryz.results192,go_sem]) rfl ⟨rfl,?_⟩
 repeat first |exact Below.refl _ _|refine Below.setCell ?_ (by simp) _|refine Below.alloc ?_ (by simp) _
end zg9
end
section

theorem wp_merge {P:Program} {code:Code} {Q:Exit→Act→World→Prop} {T:Array Value} {D:List _} {w:World} (R:Array Value→Array Value→World→Prop)
  (h:code.wp P (fun e a W=>e= .normal∧a.defers=D∧R T a.tmps W) ⟨T,D⟩ w) (h2:∀T' W,R T T' W→Q .normal ⟨T',D⟩ W):code.wp P Q ⟨T,D⟩ w:=
 Code.wp_mono (fun e a W ⟨h1,h3,h4⟩=>by
  obtain ⟨t,d⟩:=a;simp only at h3;subst h1 h3
  exact h2 _ _ h4) h
end
section
open Go.RowKit Go.Maps
namespace zg9
set_option linter.unusedSimpArgs false in
set_option maxRecDepth 100000 in
set_option maxHeartbeats 2000000 in
theorem up_any (s:Pl.Sg) (w:World) (hh:s.have'.length=4) (hm:0≤s.node.mark∧s.node.mark≤1000):
  Calls Tryz.prog 151 #[.agg s.cs.toArray] w fun e w'=>e= .returned (.agg (Pl.upS s).cs.toArray)∧Below w.heap.size w w':=by
 obtain ⟨told,⟨sp,sk,sd,st,sm⟩,hv⟩:=s
 obtain ⟨h0,h1,h2,h3,rfl⟩:∃h0 h1 h2 h3,hv=[h0,h1,h2,h3]:=by
  match hv,hh with
  | [a,b,c,d],_=>exact ⟨a,b,c,d,rfl⟩
 simp only at hm;have hw:IntKind.i64.wrap (sm - 1)=sm - 1:=by simp only [IntKind.wrap_i64];omega
 generalize hU:Pl.upS ⟨told,⟨sp,sk,sd,st,sm⟩,[h0,h1,h2,h3]⟩=U;simp only [Pl.upS] at hU;rw [show (Pl.Sg.cs ⟨told,⟨sp,sk,sd,st,sm⟩,[h0,h1,h2,h3]⟩).toArray=#[.bool told, .string sp, .int .i64 sk, .string sd, .int .i64 st, .int .i64 sm, .bool h0, .bool h1, .bool h2, .bool h3] from rfl];by_cases h5:sm - 1<0
 ·have hM:max (sm - 1) 0=0:=by omega
  rw [hM] at hU;by_cases hk:sk=0
  ·subst hk;rw [if_pos ⟨rfl,rfl⟩] at hU;have EU:=hide hU.symm;clear hU;go_enter Tryz.func151,Tryz.ntmps151
   go_wp2
   refine bodyPost_ret (v:= .agg #[.bool false, .string ⟨#[]⟩, .int .i64 0, .string ⟨#[]⟩, .int .i64 0, .int .i64 0, .bool false, .bool false, .bool false, .bool false]) (by simp [results,Tryz.results151,go_sem]) rfl ⟨by rw [za EU];rfl,?_⟩
   repeat first |exact Below.refl _ _|refine Below.setCell ?_ (by simp) _|refine Below.alloc ?_ (by simp) _
  ·have t1:(sk==0)=false:=by simpa using hk
   rw [if_neg (fun h=>hk h.1)] at hU;have EU:=hide hU.symm;clear hU;go_enter Tryz.func151,Tryz.ntmps151
   go_wp2
   refine bodyPost_ret (v:= .agg #[.bool told, .string sp, .int .i64 sk, .string sd, .int .i64 st, .int .i64 (0), .bool h0, .bool h1, .bool h2, .bool h3]) (by simp [results,Tryz.results151,go_sem]) rfl ⟨by rw [za EU];rfl,?_⟩
   repeat first |exact Below.refl _ _|refine Below.setCell ?_ (by simp) _|refine Below.alloc ?_ (by simp) _
 ·have hM:max (sm - 1) 0=sm - 1:=by omega
  rw [hM] at hU;by_cases hk:sk=0
  ·subst hk;by_cases h6:sm=1
   ·subst h6;rw [if_pos ⟨rfl,by omega⟩] at hU;have EU:=hide hU.symm;clear hU;go_enter Tryz.func151,Tryz.ntmps151
    go_wp2
    refine bodyPost_ret (v:= .agg #[.bool false, .string ⟨#[]⟩, .int .i64 0, .string ⟨#[]⟩, .int .i64 0, .int .i64 0, .bool false, .bool false, .bool false, .bool false]) (by simp [results,Tryz.results151,go_sem]) rfl ⟨by rw [za EU];rfl,?_⟩
    repeat first |exact Below.refl _ _|refine Below.setCell ?_ (by simp) _|refine Below.alloc ?_ (by simp) _
   ·have t2:(sm - 1==0)=false:=by simp;omega
    rw [if_neg (fun h=>by omega)] at hU;have EU:=hide hU.symm;clear hU;go_enter Tryz.func151,Tryz.ntmps151
    go_wp2
    refine bodyPost_ret (v:= .agg #[.bool told, .string sp, .int .i64 0, .string sd, .int .i64 st, .int .i64 (sm - 1), .bool h0, .bool h1, .bool h2, .bool h3]) (by simp [results,Tryz.results151,go_sem]) rfl ⟨by rw [za EU];rfl,?_⟩
    repeat first |exact Below.refl _ _|refine Below.setCell ?_ (by simp) _|refine Below.alloc ?_ (by simp) _
  ·have t1:(sk==0)=false:=by simpa using hk
   rw [if_neg (fun h=>hk h.1)] at hU;have EU:=hide hU.symm;clear hU;go_enter Tryz.func151,Tryz.ntmps151
   go_wp2
   refine bodyPost_ret (v:= .agg #[.bool told, .string sp, .int .i64 sk, .string sd, .int .i64 st, .int .i64 (sm - 1), .bool h0, .bool h1, .bool h2, .bool h3]) (by simp [results,Tryz.results151,go_sem]) rfl ⟨by rw [za EU];rfl,?_⟩
   repeat first |exact Below.refl _ _|refine Below.setCell ?_ (by simp) _|refine Below.alloc ?_ (by simp) _
end zg9
end
section
open Go.RowKit
namespace Mem
theorem Band.set {Y X:Nat} {w w':World} (h:Band Y X w w') {p:Addr} (hp:w.heap.size≤p.block) (v:Value):Band Y X w (w'.setCell p v):=
 ⟨h.os,h.tape,h.output,by simpa using h.size,fun j hj hh=>(heap_setCell_other _ _ _ _ (by omega)).trans (h.block j hj hh)⟩
theorem Band.call {Y X:Nat} {w v v':World} (h:Band Y X w v) (b:Below v.heap.size v v'):Band Y X w v':=h.trans (Band.of_below b)
theorem Band.alloc {Y X:Nat} {w v:World} (h:Band Y X w v) (o:Obj):Band Y X w (v.alloc o):=h.call ((Below.refl _ _).alloc (Nat.le_refl _) o)
theorem Band.grown {Y X g:Nat} {w v v':World} (h:Band Y X w v) (b:v.grownBy v' (some g)) (hg:w.heap.size≤g):Band Y X w v':=
 ⟨b.os.trans h.os,b.tape.trans h.tape,b.output.trans h.output,Nat.le_trans h.size b.size,fun j hj hh=>(b.block j (Nat.lt_of_lt_of_le hj h.size) (fun e=>by cases e;omega)).trans (h.block j hj hh)⟩
theorem Band.wide {Y X Y' X':Nat} {w w':World} (h:Band Y X w w') (h1:Y'≤Y) (h2:X≤X'):Band Y' X' w w':=
 ⟨h.os,h.tape,h.output,h.size,fun j hj hh=>h.block j hj (by omega)⟩
end Mem
namespace WWk
def zi (p:Nat):Value:= .iface 240 (.pointer (some ⟨p,0,none⟩))
def zi8 (x:Nat):Value:= .func (.func 149) #[] #[.pointer (some ⟨x,0,none⟩)]
structure Same (B lo hi:Nat) (W W':World):Prop where
 size:W.heap.size≤W'.heap.size
 block:∀b,b<W.heap.size→(b<B∨(lo≤b∧b<hi))→W'.heap[b]? =W.heap[b]?
def Ask (W:World) (v:Value) (q:ByteArray) (o:Option Pl.Nd) (lo hi:Nat) (Q:World→Prop):Prop:=
 ∃T x F r,v= .iface T x∧(∀m w,(method (m+1) T x "loop.example/g00449/impl.at").run Tryz.prog w= .ok (F,r) w)∧(∀w,(callFunc F #[r, .string q]).run Tryz.prog w= .ok (.enter F #[r, .string q]) w)∧
  Calls Tryz.prog F #[r, .string q] W fun e w'=>e= .returned (.tuple #[(o.getD Pl.za3).val, .bool o.isSome])∧Mem.Band lo hi W w'∧Q w'
structure Lv (W:World) (B lo hi x g n cap:Nat) (vs:Nat→Value) (bl bh:Nat→Nat):Prop where
 base:B≤lo
 xin:lo≤x∧x<hi
 gin:lo≤g∧g<hi
 size:hi≤W.heap.size
 box:Mem.Blk W x #[.slice (some ⟨g,0,none⟩) n cap] 239
 row:∀i,i<n→W.cell? ⟨g,i,none⟩=some (vs i)
 band:∀i,i<n→lo≤bl i∧bl i≤bh i∧bh i≤hi
 farX:∀i,i<n→x<bl i∨bh i≤x
 farG:∀i,i<n→g<bl i∨bh i≤g
 apart:∀i j,i<n→j<n→i≠j→bh i≤bl j∨bh j≤bl i
theorem Lv.keep {W W':World} {B lo hi x g n cap:Nat} {vs:Nat→Value} {bl bh:Nat→Nat} (h:Lv W B lo hi x g n cap vs bl bh) (hs:W.heap.size≤W'.heap.size) (hx:W'.heap[x]? =W.heap[x]?) (hg:W'.heap[g]? =W.heap[g]?):Lv W' B lo hi x g n cap vs bl bh:=
 ⟨h.base,h.xin,h.gin,Nat.le_trans h.size hs,hx.trans h.box,fun i hi=>(World.cell?_of_block hg).trans (h.row i hi),h.band,h.farX,h.farG,h.apart⟩
structure Sv (N:Nat) (W:World) (B lo hi x g n cap:Nat) (vs:Nat→Value) (bl bh:Nat→Nat) (hv:List Bool) (P Q:Nat→World→Prop) (j:Nat) (have':List Bool):Prop where
 lv:Lv W B lo hi x g n cap vs bl bh
 hiN:hi≤N
 NW:N≤W.heap.size
 todo:∀i,j≤i→i<n→hv[i]? =some true→P i W
 done:∀i:Nat,have'[i]? =some true→i<n∧Q i W
def Local (B:Nat) (lo hi:Nat) (P:World→Prop):Prop:=∀W W',hi≤W.heap.size→B≤W.heap.size→P W→Same B lo hi W W'→P W'
theorem Sv.keep {N:Nat} {W W':World} {B lo hi x g n cap:Nat} {vs:Nat→Value} {bl bh:Nat→Nat} {hv:List Bool} {P Q:Nat→World→Prop} {j:Nat} {hh:List Bool} (h:Sv N W B lo hi x g n cap vs bl bh hv P Q j hh)
  (hP:∀i,i<n→Local B (bl i) (bh i) (P i)) (hQ:∀i,i<n→Local B (bl i) (bh i) (Q i)) (hs:W.heap.size≤W'.heap.size) (hb:∀b,b<N→W'.heap[b]? =W.heap[b]?):Sv N W' B lo hi x g n cap vs bl bh hv P Q j hh:=by
 have hN:=h.hiN;have hNW:=h.NW;have hbB:=h.lv.base;have hx:=h.lv.xin;have hg:=h.lv.gin;have sm:∀i,i<n→Same B (bl i) (bh i) W W':=fun i hi=>⟨hs,fun b _ hh=>hb b (by have :=h.lv.band i hi;omega)⟩
 exact ⟨h.lv.keep hs (hb x (by omega)) (hb g (by omega)),h.hiN,Nat.le_trans h.NW hs,fun i h1 h2 h3=>hP i h2 W W' (by have :=h.lv.band i h2;omega) (by omega) (h.todo i h1 h2 h3) (sm i h2),
  fun i h1=>⟨(h.done i h1).1,hQ i (h.done i h1).1 W W' (by have :=h.lv.band i (h.done i h1).1;omega) (by omega) (h.done i h1).2 (sm i (h.done i h1).1)⟩⟩
theorem Sv.call {N:Nat} {W W':World} {B lo hi x g n cap:Nat} {vs:Nat→Value} {bl bh:Nat→Nat} {hv:List Bool} {P Q:Nat→World→Prop} {j:Nat} {hh:List Bool} (h:Sv N W B lo hi x g n cap vs bl bh hv P Q j hh)
  (hP:∀i,i<n→Local B (bl i) (bh i) (P i)) (hQ:∀i,i<n→Local B (bl i) (bh i) (Q i)) (b:Below W.heap.size W W'):Sv N W' B lo hi x g n cap vs bl bh hv P Q j hh:=
 h.keep hP hQ b.size (fun i hi=>b.block i (by have :=h.NW;omega))
theorem Sv.grown {N X:Nat} {W W':World} {B lo hi x g n cap:Nat} {vs:Nat→Value} {bl bh:Nat→Nat} {hv:List Bool} {P Q:Nat→World→Prop} {j:Nat} {hh:List Bool} (h:Sv N W B lo hi x g n cap vs bl bh hv P Q j hh)
  (hP:∀i,i<n→Local B (bl i) (bh i) (P i)) (hQ:∀i,i<n→Local B (bl i) (bh i) (Q i)) (b:W.grownBy W' (some X)) (hX:N≤X):Sv N W' B lo hi x g n cap vs bl bh hv P Q j hh:=
 h.keep hP hQ b.size (fun i hi=>b.block i (by have :=h.NW;omega) (fun e=>by cases e;omega))
theorem Sv.skip {N:Nat} {W:World} {B lo hi x g n cap:Nat} {vs:Nat→Value} {bl bh:Nat→Nat} {hv:List Bool} {P Q:Nat→World→Prop} {j:Nat} {hh:List Bool} (h:Sv N W B lo hi x g n cap vs bl bh hv P Q j hh):Sv N W B lo hi x g n cap vs bl bh hv P Q (j+1) hh:=
 ⟨h.lv,h.hiN,h.NW,fun i h1=>h.todo i (by omega),h.done⟩
theorem Sv.ask {N:Nat} {W W':World} {B lo hi x g n cap:Nat} {vs:Nat→Value} {bl bh:Nat→Nat} {hv:List Bool} {P Q:Nat→World→Prop} {j:Nat} {hh:List Bool} (h:Sv N W B lo hi x g n cap vs bl bh hv P Q j hh)
  (hP:∀i,i<n→Local B (bl i) (bh i) (P i)) (hQ:∀i,i<n→Local B (bl i) (bh i) (Q i)) (hj:j<n) (b:Mem.Band (bl j) (bh j) W W') (q:Q j W'):Sv N W' B lo hi x g n cap vs bl bh hv P Q (j+1) hh:=by
 have hN:=h.hiN;have hNW:=h.NW;have hx:=h.lv.xin;have hg:=h.lv.gin;have hB:=h.lv.base;have sm:∀i,i<n→i≠j→Same B (bl i) (bh i) W W':=fun i hi hne=>⟨b.size,fun c hc hh=>b.block c hc (by have h1:=h.lv.band j hj;have h2:=h.lv.apart i j hi hj hne;have h3:=h.lv.band i hi;omega)⟩;refine ⟨h.lv.keep b.size (b.block x (by omega) (h.lv.farX j hj)) (b.block g (by omega) (h.lv.farG j hj)),h.hiN,Nat.le_trans h.NW b.size,fun i h1 h2 h3=>hP i h2 W W' (by have :=h.lv.band i h2;omega) (by omega) (h.todo i (by omega) h2 h3) (sm i h2 (by omega)),fun i h1=>?_⟩;obtain ⟨h2,h3⟩:=h.done i h1;by_cases e:i=j
 ·subst e;exact ⟨h2,q⟩
 ·exact ⟨h2,hQ i h2 W W' (by have :=h.lv.band i h2;omega) (by omega) h3 (sm i h2 e)⟩
theorem Sv.take {N:Nat} {W:World} {B lo hi x g n cap:Nat} {vs:Nat→Value} {bl bh:Nat→Nat} {hv:List Bool} {P Q:Nat→World→Prop} {j k:Nat} {s:Pl.Sg} (h:Sv N W B lo hi x g n cap vs bl bh hv P Q j s.have') (hk:k<n) (q:Q k W) (m:Pl.Nd):Sv N W B lo hi x g n cap vs bl bh hv P Q j (Pl.zc8 s k m).have':=by
 refine ⟨h.lv,h.hiN,h.NW,h.todo,fun i hi=>?_⟩;simp only [Pl.zc8] at hi;by_cases e:i=k
 ·subst e;exact ⟨hk,q⟩
 ·rw [List.getElem?_set_ne (fun h=>e h.symm)] at hi;exact h.done i hi
theorem up_have {s:Pl.Sg} {i:Nat} (h:(Pl.upS s).have'[i]? =some true):s.have'[i]? =some true:=by
 unfold Pl.upS at h
 split at h
 ·exfalso;have :∀b∈Pl.Sg.zero.have',b=false:=by decide
  have :=this true (List.mem_of_getElem? h);cases this
 ·exact h
end WWk
end
end Go.Proofs.YtgdjjncmocppeaaGreatDoor
