/- Several texts of one claim in one file: WVo, WVAs, WVAsB, WVfs1, WNodeAt, WLevelUp, MemWk, WWkD, MemWk2. -/
import Derived.Stop.Asserts
import Derived.RowKitTokens
import Derived.Test.YtbomeifgfalmdaaGreatDoorG17
set_option linter.unusedSimpArgs false
set_option maxRecDepth 100000
set_option maxHeartbeats 4000000
namespace Go.Proofs.YtbomeifgfalmdaaGreatDoor
section
open Go.RowKit
namespace WVfs
def vill (c:Int):Value:= .agg #[.slice none 0 0, .slice none 0 0, .slice none 0 0, .int .i64 0, .string ⟨#[]⟩, .slice none 0 0, .int .i64 0, .int .i64 0, .int .i64 c]
end WVfs
end
section
open Go.RowKit Go.Extern.Stop Go.Stop Go.Extern
namespace WVAs

theorem valueP (t:Addr) (w:World):(ReflectliteValue.unpack (.iface 124 (.pointer (some t)))).run Tryz.prog w
  = .ok (.agg #[.pointer (some ⟨6,124,none⟩), .pointer (some ⟨w.heap.size,0,none⟩), .int .u64 150]) (w.alloc (.cells #[.pointer (some t)] 124)):=by kernel_rfl
theorem typeP (a:Addr) (w:World):(ReflectliteValue.methodAny (ReflectliteValue.valueError "reflectlite.Value.Type" 0) (fun t _ _ _=>ReflectliteType.toType t) #[.agg #[.pointer (some ⟨6,124,none⟩), .pointer (some a), .int .u64 150]]).run Tryz.prog w
  = .ok (.iface 210 (.agg #[.pointer (some ⟨6,124,none⟩)])) w:=by kernel_rfl
theorem methodKind (h:Value) (w:World):(Go.method 439 210 (.agg #[h]) "Kind").run Tryz.prog w= .ok (211,h) w:=by kernel_rfl
theorem kindP (w:World):((ReflectliteType.abiMethod fun t=>(fun a:Nat=>Value.int IntKind.u8 (a:Int)) <$> Rtype.kind t) #[.pointer (some ⟨6,124,none⟩)]).run Tryz.prog w= .ok (.int .u8 22) w:=by kernel_rfl
theorem kindS (w:World):((ReflectliteType.abiMethod fun t=>(fun a:Nat=>Value.int IntKind.u8 (a:Int)) <$> Rtype.kind t) #[.pointer (some ⟨6,122,none⟩)]).run Tryz.prog w= .ok (.int .u8 25) w:=by kernel_rfl

theorem rlm (z:Sem Value) (f:TypeId→Addr→Nat→Nat→Sem Value) (v:Value):
  ∃g,ReflectliteValue.method z f #[v]=(ReflectliteValue.parts v>>=g)∧∀t a fl,g (some (t,a,fl))=f t a fl (fl % 32):=⟨_,rfl,fun _ _ _=>rfl⟩
theorem partsP (a:Addr) (w:World):(ReflectliteValue.parts (.agg #[.pointer (some ⟨6,124,none⟩), .pointer (some a), .int .u64 150])).run Tryz.prog w= .ok (some (124,a,150)) w:=by kernel_rfl
theorem isNilP (a p:Addr) (W:World) (ha:W.cell? a=some (.pointer (some p))):
  (ReflectliteValue.method (ReflectliteValue.valueError "reflectlite.Value.IsNil" 0) ReflectliteValue.isNil #[.agg #[.pointer (some ⟨6,124,none⟩), .pointer (some a), .int .u64 150]]).run Tryz.prog W= .ok (.bool false) W:=by
 obtain ⟨g,hm,hg⟩:=rlm (ReflectliteValue.valueError "reflectlite.Value.IsNil" 0) ReflectliteValue.isNil (.agg #[.pointer (some ⟨6,124,none⟩), .pointer (some a), .int .u64 150]);rw [hm];simp only [Sem.run_bind,partsP,Result.andThen,hg];simp [ReflectliteValue.isNil,loadVar,isAgg,underlying,Tryz.underlying124,ha,Result.andThen]

theorem methodElem (h:Value) (w:World):(Go.method 439 210 (.agg #[h]) "Elem").run Tryz.prog w= .ok (225, .agg #[h]) w:=by kernel_rfl
theorem yi4 (h:Value) (w:World):(Go.method 439 210 (.agg #[h]) "Implements").run Tryz.prog w= .ok (226, .agg #[h]) w:=by kernel_rfl
theorem ye5 (h:Value) (w:World):(Go.method 439 210 (.agg #[h]) "AssignableTo").run Tryz.prog w= .ok (223, .agg #[h]) w:=by kernel_rfl
theorem elemT (w:World):(ReflectliteType.method ReflectliteType.elem #[.agg #[.pointer (some ⟨6,124,none⟩)]]).run Tryz.prog w= .ok (.iface 210 (.agg #[.pointer (some ⟨6,122,none⟩)])) w:=by kernel_rfl
theorem implementsS (w:World):(ReflectliteType.relation "Implements" ReflectliteType.implements_ #[.agg #[.pointer (some ⟨6,122,none⟩)], .iface 210 (.agg #[.pointer (some ⟨6,69,none⟩)])]).run Tryz.prog w= .ok (.bool true) w:=by kernel_rfl
theorem typeOfS (v:Value) (w:World):(ReflectliteType.typeOf #[.iface 122 v]).run Tryz.prog w= .ok (.iface 210 (.agg #[.pointer (some ⟨6,122,none⟩)])) w:=by kernel_rfl
theorem assignableS (w:World):(ReflectliteType.relation "AssignableTo" ReflectliteType.assignableTo #[.agg #[.pointer (some ⟨6,122,none⟩)], .iface 210 (.agg #[.pointer (some ⟨6,122,none⟩)])]).run Tryz.prog w= .ok (.bool true) w:=by kernel_rfl
theorem valueS (c:Int) (w:World):(ReflectliteValue.unpack (.iface 122 (.agg #[.int .i64 c]))).run Tryz.prog w
  = .ok (.agg #[.pointer (some ⟨6,122,none⟩), .pointer (some ⟨w.heap.size,0,none⟩), .int .u64 153]) (w.alloc (.cells #[.int .i64 c] 122)):=by kernel_rfl
theorem elemOfP (w:World):(Rtype.elem? 124).run Tryz.prog w= .ok (some 122) w:=by kernel_rfl
theorem mkS (p:Addr) (w:World):(ReflectliteValue.mk 122 p ReflectliteValue.flagAddr).run Tryz.prog w= .ok (.agg #[.pointer (some ⟨6,122,none⟩), .pointer (some p), .int .u64 409]) w:=by kernel_rfl
theorem elemV (a p:Addr) (W:World) (ha:W.cell? a=some (.pointer (some p))):
  (ReflectliteValue.method (ReflectliteValue.valueError "reflectlite.Value.Elem" 0) ReflectliteValue.elem #[.agg #[.pointer (some ⟨6,124,none⟩), .pointer (some a), .int .u64 150]]).run Tryz.prog W
   = .ok (.agg #[.pointer (some ⟨6,122,none⟩), .pointer (some p), .int .u64 409]) W:=by
 obtain ⟨g,hm,hg⟩:=rlm (ReflectliteValue.valueError "reflectlite.Value.Elem" 0) ReflectliteValue.elem (.agg #[.pointer (some ⟨6,124,none⟩), .pointer (some a), .int .u64 150]);rw [hm];simp only [Sem.run_bind,partsP,Result.andThen,hg];simp [ReflectliteValue.elem,loadVar,isAgg,underlying,Tryz.underlying124,ha,Result.andThen,elemOfP,mkS]
theorem partsSa (a:Addr) (w:World):(ReflectliteValue.parts (.agg #[.pointer (some ⟨6,122,none⟩), .pointer (some a), .int .u64 409])).run Tryz.prog w= .ok (some (122,a,409)) w:=by kernel_rfl
theorem partsS (a:Addr) (w:World):(ReflectliteValue.parts (.agg #[.pointer (some ⟨6,122,none⟩), .pointer (some a), .int .u64 153])).run Tryz.prog w= .ok (some (122,a,153)) w:=by kernel_rfl
theorem directS (w:World):(Rtype.directlyAssignable 122 122).run Tryz.prog w= .ok true w:=by kernel_rfl
end WVAs
end
section
open Go.RowKit Go.Extern.Stop Go.Stop Go.Extern
namespace WVAs
theorem rls (v x:Value):∃g:Option (TypeId × Addr × Nat)→Option (TypeId × Addr × Nat)→Sem Value,ReflectliteValue.set #[v,x]=(ReflectliteValue.parts v>>=fun p=>ReflectliteValue.parts x>>=fun q=>g p q)∧
  ∀ (P:Program) (W W':World) dst a fl src b h val,(fl / ReflectliteValue.flagAddr % 2==0)=false→(loadVar src b).run P W= .ok val W→(Rtype.directlyAssignable dst src).run P W= .ok true W→(storeVar dst a val).run P W= .ok () W'→
   (g (some (dst,a,fl)) (some (src,b,h))).run P W= .ok (.tuple #[]) W':=by
 refine ⟨_,rfl,?_⟩;intro P W W' dst a fl src b h val hf hl hd hst;simp [hf,hl,hd,hst,Result.andThen]
theorem loadS (b:Addr) (c:Int) (W:World) (hb:W.cell? b=some (.int .i64 c)) (hs:b.spot=none):(loadVar 122 b).run Tryz.prog W= .ok (.agg #[.int .i64 c]) W:=by
 have ha:b.add 0=b:=by obtain ⟨x,y,z⟩:=b;cases hs;rfl
 have h:(loadCells b 1).run Tryz.prog W= .ok #[.int .i64 c] W:=run_loadCells_list (P:=Tryz.prog) W b [.int .i64 c] (fun j v hj=>by
  match j,hj with
  |0,hj=>rw [ha,hb];simpa using hj
  |j+1,hj=>simp at hj)
 simp [loadVar,h,Result.andThen]
theorem storeS (t:Addr) (c:Int) (old:Value) (W:World) (ht:W.cell? t=some old) (hf:W.frozen? t=false) (hs:t.spot=none):(storeVar 122 t (.agg #[.int .i64 c])).run Tryz.prog W= .ok () (W.setCell t (.int .i64 c)):=by
 have ha:t.add 0=t:=by obtain ⟨x,y,z⟩:=t;cases hs;rfl
 simp [storeVar,Value.cells,storeCells,ha]
 rw [run_store Tryz.prog W t _ _ (by rfl)];simp [ht,hf]
theorem setS (ta b:Addr) (c:Int) (old:Value) (W:World) (hb:W.cell? b=some (.int .i64 c)) (hbs:b.spot=none) (ht:W.cell? ta=some old) (hf:W.frozen? ta=false) (hts:ta.spot=none):
  (ReflectliteValue.set #[.agg #[.pointer (some ⟨6,122,none⟩), .pointer (some ta), .int .u64 409], .agg #[.pointer (some ⟨6,122,none⟩), .pointer (some b), .int .u64 153]]).run Tryz.prog W
   = .ok (.tuple #[]) (W.setCell ta (.int .i64 c)):=by
 obtain ⟨g,hs,hg⟩:=rls (.agg #[.pointer (some ⟨6,122,none⟩), .pointer (some ta), .int .u64 409]) (.agg #[.pointer (some ⟨6,122,none⟩), .pointer (some b), .int .u64 153]);rw [hs];simp only [Sem.run_bind,partsSa,partsS,Result.andThen];exact hg _ W _ 122 ta 409 122 b 153 _ rfl (loadS b c W hb hbs) (directS W) (storeS ta c old W ht hf hts)

theorem as_hit (c:Int) (tb:Nat) (old:Value) (w:World) (hg:w.cell? ⟨1,0,none⟩=some (.iface 210 (.agg #[.pointer (some ⟨6,69,none⟩)]))) (ht0:w.cell? ⟨tb,0,none⟩=some old) (hf0:w.frozen? ⟨tb,0,none⟩=false):
  Calls Tryz.prog 57 #[.iface 122 (.agg #[.int .i64 c]), .iface 124 (.pointer (some ⟨tb,0,none⟩))] w fun ev w'=>ev= .returned (.bool true)∧
   w'=((((w.alloc (.cells #[.pointer (some ⟨tb,0,none⟩)] 124)).alloc (.cells #[.pointer (some ⟨6,124,none⟩), .pointer (some ⟨w.heap.size,0,none⟩), .int .u64 150] 164)).alloc (.cells #[.pointer (some ⟨6,124,none⟩), .pointer (some ⟨w.heap.size,0,none⟩), .int .u64 150] 164)).alloc (.cells #[.int .i64 c] 122)).setCell ⟨tb,0,none⟩ (.int .i64 c):=by
 have h1:=@run_callFunc_extern Tryz.prog 87 _ (fun args=>ReflectliteValue.unpack (args.getD 0 (.tuple #[]))) Tryz.func87 (by kernel_rfl) (by kernel_rfl) (by kernel_rfl) (by kernel_rfl);have h2:=@run_callFunc_extern Tryz.prog 88 _ (ReflectliteValue.methodAny (ReflectliteValue.valueError "reflectlite.Value.Type" 0) (fun t _ _ _=>ReflectliteType.toType t)) Tryz.func88 (by kernel_rfl) (by kernel_rfl) (by kernel_rfl) (by kernel_rfl);have h3:=@run_callFunc_extern Tryz.prog 89 _ (ReflectliteValue.method (ReflectliteValue.valueError "reflectlite.Value.IsNil" 0) ReflectliteValue.isNil) Tryz.func89 (by kernel_rfl) (by kernel_rfl) (by kernel_rfl) (by kernel_rfl)
 have h4:=@run_callFunc_extern Tryz.prog 211 _ (ReflectliteType.abiMethod fun t=>do pure (.int .u8 (←Rtype.kind t))) Tryz.func211 (by kernel_rfl) (by kernel_rfl) (by kernel_rfl) (by kernel_rfl);have h5:=@run_callFunc_extern Tryz.prog 225 _ (ReflectliteType.method ReflectliteType.elem) Tryz.func225 (by kernel_rfl) (by kernel_rfl) (by kernel_rfl) (by kernel_rfl);have h6:=@run_callFunc_extern Tryz.prog 226 _ (ReflectliteType.relation "Implements" ReflectliteType.implements_) Tryz.func226 (by kernel_rfl) (by kernel_rfl) (by kernel_rfl) (by kernel_rfl)
 have h7:=@run_callFunc_extern Tryz.prog 116 _ ReflectliteType.typeOf Tryz.func116 (by kernel_rfl) (by kernel_rfl) (by kernel_rfl) (by kernel_rfl);have h8:=@run_callFunc_extern Tryz.prog 223 _ (ReflectliteType.relation "AssignableTo" ReflectliteType.assignableTo) Tryz.func223 (by kernel_rfl) (by kernel_rfl) (by kernel_rfl) (by kernel_rfl);have h9:=@run_callFunc_extern Tryz.prog 117 _ (ReflectliteValue.method (ReflectliteValue.valueError "reflectlite.Value.Elem" 0) ReflectliteValue.elem) Tryz.func117 (by kernel_rfl) (by kernel_rfl) (by kernel_rfl) (by kernel_rfl)
 have h10:=@run_callFunc_extern Tryz.prog 118 _ ReflectliteValue.set Tryz.func118 (by kernel_rfl) (by kernel_rfl) (by kernel_rfl) (by kernel_rfl);have g1:=typeOfS;have g2:=ye5;have g3:=assignableS;have g4:=valueS;have g5:=valueP;have g6:=typeP;have g7:=methodKind;have g8:=methodElem;have g9:=yi4;have g10:=kindP;have g11:=kindS;have g12:=elemT;have g13:=implementsS;have n8:=isNilP ⟨w.heap.size,0,none⟩ ⟨tb,0,none⟩ ((w.alloc (.cells #[.pointer (some ⟨tb,0,none⟩)] 124)).alloc (.cells #[.pointer (some ⟨6,124,none⟩), .pointer (some ⟨w.heap.size,0,none⟩), .int .u64 150] 164)) (by simp);have hlt:1<w.heap.size:=World.block_lt_of_cell? w ⟨1,0,none⟩ hg
 have hg2:((w.alloc (.cells #[.pointer (some ⟨tb,0,none⟩)] 124)).alloc (.cells #[.pointer (some ⟨6,124,none⟩), .pointer (some ⟨w.heap.size,0,none⟩), .int .u64 150] 164)).cell? ⟨1,0,none⟩=some (.iface 210 (.agg #[.pointer (some ⟨6,69,none⟩)])):=by
  rw [World.cell?_alloc_lt _ _ ⟨1,0,none⟩ (by simp;try omega),World.cell?_alloc_lt _ _ ⟨1,0,none⟩ hlt];exact hg
 have htl:tb<w.heap.size:=World.block_lt_of_cell? w ⟨tb,0,none⟩ ht0;have el:=elemV ⟨w.heap.size,0,none⟩ ⟨tb,0,none⟩ (((w.alloc (.cells #[.pointer (some ⟨tb,0,none⟩)] 124)).alloc (.cells #[.pointer (some ⟨6,124,none⟩), .pointer (some ⟨w.heap.size,0,none⟩), .int .u64 150] 164)).alloc (.cells #[.pointer (some ⟨6,124,none⟩), .pointer (some ⟨w.heap.size,0,none⟩), .int .u64 150] 164)) (by rw [World.cell?_alloc_lt _ _ ⟨w.heap.size,0,none⟩ (by simp;omega)];simp)
 have st:=setS ⟨tb,0,none⟩ ⟨w.heap.size+1+1+1,0,none⟩ c old ((((w.alloc (.cells #[.pointer (some ⟨tb,0,none⟩)] 124)).alloc (.cells #[.pointer (some ⟨6,124,none⟩), .pointer (some ⟨w.heap.size,0,none⟩), .int .u64 150] 164)).alloc (.cells #[.pointer (some ⟨6,124,none⟩), .pointer (some ⟨w.heap.size,0,none⟩), .int .u64 150] 164)).alloc (.cells #[.int .i64 c] 122))
  (by rw [World.cell?_alloc_at _ _ _ _ (by simp)];rfl) rfl
  (by rw [World.cell?_alloc_lt _ _ ⟨tb,0,none⟩ (by simp;omega),World.cell?_alloc_lt _ _ ⟨tb,0,none⟩ (by simp;omega),World.cell?_alloc_lt _ _ ⟨tb,0,none⟩ (by simp;omega),World.cell?_alloc_lt _ _ ⟨tb,0,none⟩ htl];exact ht0)
  (by rw [World.frozen?_alloc_old _ _ ⟨tb,0,none⟩ (by simp;omega),World.frozen?_alloc_old _ _ ⟨tb,0,none⟩ (by simp;omega),World.frozen?_alloc_old _ _ ⟨tb,0,none⟩ (by simp;omega),World.frozen?_alloc_old _ _ ⟨tb,0,none⟩ (Nat.ne_of_lt htl)];exact hf0) rfl
 go_enter Tryz.func57,Tryz.ntmps57
 go_wp2
 refine wp_loop_rounds 1 ?_;rw [rounds_succ];go_wp2
 go_ret
 exact ⟨rfl,rfl⟩

end WVAs
end
section
open Go.RowKit
namespace WVfs
def fault (c:Int):Value:= .iface 122 (.agg #[.int .i64 c])
theorem yh8 (c:Int) (w:World) (hg:w.cell? ⟨1,0,none⟩=some (.iface 210 (.agg #[.pointer (some ⟨6,69,none⟩)]))):
  Calls Tryz.prog 26 #[fault c] w fun e w'=>e= .returned (vill c)∧Below w.heap.size w w':=by
 unfold fault vill;have b0:Below w.heap.size w ((w.alloc (.cells #[.slice none 0 0, .slice none 0 0, .slice none 0 0, .int .i64 0, .string ⟨#[]⟩, .slice none 0 0, .int .i64 0, .int .i64 0, .int .i64 0] 35)).alloc (.cells #[.int .i64 0] 122)):=(bE0).alloc (by simp) _;have V0:=(Mem.Blk.new w #[.slice none 0 0, .slice none 0 0, .slice none 0 0, .int .i64 0, .string ⟨#[]⟩, .slice none 0 0, .int .i64 0, .int .i64 0, .int .i64 0] 35).alloc (.cells #[.int .i64 0] 122)
 have X0:Mem.Blk ((w.alloc (.cells #[.slice none 0 0, .slice none 0 0, .slice none 0 0, .int .i64 0, .string ⟨#[]⟩, .slice none 0 0, .int .i64 0, .int .i64 0, .int .i64 0] 35)).alloc (.cells #[.int .i64 0] 122)) (w.heap.size+1) #[.int .i64 0] 122:=by
  have h:=Mem.Blk.new (w.alloc (.cells #[.slice none 0 0, .slice none 0 0, .slice none 0 0, .int .i64 0, .string ⟨#[]⟩, .slice none 0 0, .int .i64 0, .int .i64 0, .int .i64 0] 35)) #[.int .i64 0] 122;rw [show (w.alloc (.cells #[.slice none 0 0, .slice none 0 0, .slice none 0 0, .int .i64 0, .string ⟨#[]⟩, .slice none 0 0, .int .i64 0, .int .i64 0, .int .i64 0] 35)).heap.size=w.heap.size+1 by simp] at h;exact h
 have hlt:1<w.heap.size:=World.block_lt_of_cell? w ⟨1,0,none⟩ hg;have hg1:=(b0.cell (p:=⟨1,0,none⟩) hlt).trans hg;have KB:=hide b0;have KV:=hide V0;have KX:=hide X0;have x0:=X0.cell 0;have x1:=X0.fr 0;simp only [kGs] at x0;have HA:=hide (WVAs.as_hit c (w.heap.size+1) (.int .i64 0) _ hg1 x0 x1);clear b0 V0 X0 x0 x1 hg hg1 hlt;go_enter Tryz.func26,Tryz.ntmps26
 go_wp2_with fail
 generalize (w.alloc (.cells #[.slice none 0 0, .slice none 0 0, .slice none 0 0, .int .i64 0, .string ⟨#[]⟩, .slice none 0 0, .int .i64 0, .int .i64 0, .int .i64 0] 35)).alloc (.cells #[.int .i64 0] 122)=w2 at HA KB KV KX ⊢;refine (za HA).mono ?_;rintro e w3 ⟨rfl,rfl⟩;have b3:Below w2.heap.size w2 ((((w2.alloc (.cells #[.pointer (some ⟨w.heap.size+1,0,none⟩)] 124)).alloc (.cells #[.pointer (some ⟨6,124,none⟩), .pointer (some ⟨w2.heap.size,0,none⟩), .int .u64 150] 164)).alloc (.cells #[.pointer (some ⟨6,124,none⟩), .pointer (some ⟨w2.heap.size,0,none⟩), .int .u64 150] 164)).alloc (.cells #[.int .i64 c] 122)):=(((bE0).alloc (by simp) _).alloc (by simp;omega) _).alloc (by simp;omega) _;have V3:=(za KV).call b3
 have X3:=(za KX).call b3;have B3:=(za KB).trans (b3.mono (za KB).size);clear HA KV KX KB b3;generalize (((w2.alloc (.cells #[.pointer (some ⟨w.heap.size+1,0,none⟩)] 124)).alloc (.cells #[.pointer (some ⟨6,124,none⟩), .pointer (some ⟨w2.heap.size,0,none⟩), .int .u64 150] 164)).alloc (.cells #[.pointer (some ⟨6,124,none⟩), .pointer (some ⟨w2.heap.size,0,none⟩), .int .u64 150] 164)).alloc (.cells #[.int .i64 c] 122)=w3 at V3 X3 B3 ⊢;have X4:=X3.put 0 (.int .i64 c);simp only [kB3,kB4] at X4;have V4:=V3.far ⟨w.heap.size+1,0,none⟩ (.int .i64 c) (by show w.heap.size≠w.heap.size+1;omega);have B4:=hide (B3.setCell (p:=⟨w.heap.size+1,0,none⟩) (Nat.le_succ _) (.int .i64 c))
 generalize w3.setCell ⟨w.heap.size+1,0,none⟩ (.int .i64 c)=w4 at X4 V4 B4 ⊢;have x0:=X4.cell 0;obtain ⟨⟨d0,d1,d2,d3,d4,d5,d6,d7,d8⟩,f0,f1,f2,f3,f4,f5,f6,f7,f8⟩:=jf9 V4;simp only [kGs] at x0;clear X3 V3 B3;go_wp2
 refine bodyPost_ret (v:= .agg #[.slice none 0 0, .slice none 0 0, .slice none 0 0, .int .i64 0, .string ⟨#[]⟩, .slice none 0 0, .int .i64 0, .int .i64 0, .int .i64 c]) (by simp [results,Tryz.results26,go_sem,d0,d1,d2,d3,d4,d5,d6,d7,d8]) rfl ⟨rfl,?_⟩;refine Below.setCell (Below.setCell (Below.setCell (Below.setCell (Below.setCell (Below.setCell (Below.setCell (Below.setCell (Below.setCell (za B4) ?_ _) ?_ _) ?_ _) ?_ _) ?_ _) ?_ _) ?_ _) ?_ _) ?_ _ <;> exact Nat.le_refl _
end WVfs
end
section
open Go.RowKit Go.Maps
namespace zi3
theorem at_some (B N:Nat) (D:DataW Unit) (p:ByteArray) (m:Pl.Nd) (w:World) (hp:p.size≤1048576) (hown:w.ownsMap Tryz.prog 9 MapN.elem B N D) (h1:D.atKey (MapN.key p) (MapN.dat ⟨⟨#[]⟩,0,⟨#[]⟩,0,0⟩)=MapN.dat m) (t:Bool) (h2:Maps.has D (MapN.key p)=t):
  Calls Tryz.prog 215 #[.map (some B), .string p] w fun e w'=>e= .returned (.tuple #[m.val, .bool t])∧Below w.heap.size w w':=by
 have hkey:=MapN.zo0 (p:=p) (by unfold maxLen;omega);have HM:=hide (zq0.zf9 hown ((Below.refl _ _).alloc (Nat.le_refl _) (.cells #[.string ⟨#[]⟩, .int .i64 0, .string ⟨#[]⟩, .int .i64 0, .int .i64 0] 55)));have ha:=hide h1;have ha2:=hide h2;clear h1 h2 hown;obtain ⟨mp,mk,md,mt,mm⟩:=m;go_enter Tryz.func215,Tryz.ntmps215
 go_wp2_with (at_lookup;refine MapN.look_ok _ rfl _ _ 130 rfl 9 55 MapN.law Tryz.underlying130 (MapN.za3 _) B N D rfl (za HM) _ _ rfl hkey ⟨mp,mk,md,mt,mm⟩ (za ha) t (za ha2) ?_)
 refine bodyPost_ret (v:= .tuple #[.agg #[.string mp, .int .i64 mk, .string md, .int .i64 mt, .int .i64 mm], .bool t]) (by simp [results,Tryz.results215,go_sem]) rfl ⟨rfl,?_⟩
 repeat first |exact Below.refl _ _|refine Below.setCell ?_ (by simp) _|refine Below.alloc ?_ (by simp) _
end zi3
end
section
open Go.RowKit Go.Maps
namespace zi3
theorem up_any (s:Pl.Sg) (w:World) (hh:s.have'.length=4) (hm:0≤s.node.mark∧s.node.mark≤1000):
  Calls Tryz.prog 163 #[.agg s.cs.toArray] w fun e w'=>e= .returned (.agg (Pl.upS s).cs.toArray)∧Below w.heap.size w w':=by
 obtain ⟨told,⟨sp,sk,sd,st,sm⟩,hv⟩:=s
 obtain ⟨h0,h1,h2,h3,rfl⟩:∃h0 h1 h2 h3,hv=[h0,h1,h2,h3]:=by
  match hv,hh with
  | [a,b,c,d],_=>exact ⟨a,b,c,d,rfl⟩
 simp only at hm;have hw:IntKind.i64.wrap (sm - 1)=sm - 1:=by simp only [IntKind.wrap_i64];omega
 generalize hU:Pl.upS ⟨told,⟨sp,sk,sd,st,sm⟩,[h0,h1,h2,h3]⟩=U;simp only [Pl.upS] at hU;rw [show (Pl.Sg.cs ⟨told,⟨sp,sk,sd,st,sm⟩,[h0,h1,h2,h3]⟩).toArray=#[.bool told, .string sp, .int .i64 sk, .string sd, .int .i64 st, .int .i64 sm, .bool h0, .bool h1, .bool h2, .bool h3] from rfl];by_cases h5:sm - 1<0
 ·have hM:max (sm - 1) 0=0:=by omega
  rw [hM] at hU;by_cases hk:sk=0
  ·subst hk;rw [if_pos ⟨rfl,rfl⟩] at hU;have EU:=hide hU.symm;clear hU;go_enter Tryz.func163,Tryz.ntmps163
   go_wp2
   refine bodyPost_ret (v:= .agg #[.bool false, .string ⟨#[]⟩, .int .i64 0, .string ⟨#[]⟩, .int .i64 0, .int .i64 0, .bool false, .bool false, .bool false, .bool false]) (by simp [results,Tryz.results163,go_sem]) rfl ⟨by rw [za EU];rfl,?_⟩
   repeat first |exact Below.refl _ _|refine Below.setCell ?_ (by simp) _|refine Below.alloc ?_ (by simp) _
  ·have t1:(sk==0)=false:=by simpa using hk
   rw [if_neg (fun h=>hk h.1)] at hU;have EU:=hide hU.symm;clear hU;go_enter Tryz.func163,Tryz.ntmps163
   go_wp2
   refine bodyPost_ret (v:= .agg #[.bool told, .string sp, .int .i64 sk, .string sd, .int .i64 st, .int .i64 (0), .bool h0, .bool h1, .bool h2, .bool h3]) (by simp [results,Tryz.results163,go_sem]) rfl ⟨by rw [za EU];rfl,?_⟩
   repeat first |exact Below.refl _ _|refine Below.setCell ?_ (by simp) _|refine Below.alloc ?_ (by simp) _
 ·have hM:max (sm - 1) 0=sm - 1:=by omega
  rw [hM] at hU;by_cases hk:sk=0
  ·subst hk;by_cases h6:sm=1
   ·subst h6;rw [if_pos ⟨rfl,by omega⟩] at hU;have EU:=hide hU.symm;clear hU;go_enter Tryz.func163,Tryz.ntmps163
    go_wp2
    refine bodyPost_ret (v:= .agg #[.bool false, .string ⟨#[]⟩, .int .i64 0, .string ⟨#[]⟩, .int .i64 0, .int .i64 0, .bool false, .bool false, .bool false, .bool false]) (by simp [results,Tryz.results163,go_sem]) rfl ⟨by rw [za EU];rfl,?_⟩
    repeat first |exact Below.refl _ _|refine Below.setCell ?_ (by simp) _|refine Below.alloc ?_ (by simp) _
   ·have t2:(sm - 1==0)=false:=by simp;omega
    rw [if_neg (fun h=>by omega)] at hU;have EU:=hide hU.symm;clear hU;go_enter Tryz.func163,Tryz.ntmps163
    go_wp2
    refine bodyPost_ret (v:= .agg #[.bool told, .string sp, .int .i64 0, .string sd, .int .i64 st, .int .i64 (sm - 1), .bool h0, .bool h1, .bool h2, .bool h3]) (by simp [results,Tryz.results163,go_sem]) rfl ⟨by rw [za EU];rfl,?_⟩
    repeat first |exact Below.refl _ _|refine Below.setCell ?_ (by simp) _|refine Below.alloc ?_ (by simp) _
  ·have t1:(sk==0)=false:=by simpa using hk
   rw [if_neg (fun h=>hk h.1)] at hU;have EU:=hide hU.symm;clear hU;go_enter Tryz.func163,Tryz.ntmps163
   go_wp2
   refine bodyPost_ret (v:= .agg #[.bool told, .string sp, .int .i64 sk, .string sd, .int .i64 st, .int .i64 (sm - 1), .bool h0, .bool h1, .bool h2, .bool h3]) (by simp [results,Tryz.results163,go_sem]) rfl ⟨by rw [za EU];rfl,?_⟩
   repeat first |exact Below.refl _ _|refine Below.setCell ?_ (by simp) _|refine Below.alloc ?_ (by simp) _
end zi3
end
section
open Go.RowKit
namespace Mem
theorem Band.set {Y X:Nat} {w w':World} (h:Band Y X w w') {p:Addr} (hp:w.heap.size≤p.block) (v:Value):Band Y X w (w'.setCell p v):=
 ⟨h.os,h.tape,h.output,by simpa using h.size,fun j hj hh=>(heap_setCell_other _ _ _ _ (by omega)).trans (h.block j hj hh)⟩
theorem Band.call {Y X:Nat} {w v v':World} (h:Band Y X w v) (b:Below v.heap.size v v'):Band Y X w v':=h.trans (Band.of_below b)
theorem Band.alloc {Y X:Nat} {w v:World} (h:Band Y X w v) (o:Obj):Band Y X w (v.alloc o):=h.call ((Below.refl _ _).alloc (Nat.le_refl _) o)
theorem Band.grown {Y X g:Nat} {w v v':World} (h:Band Y X w v) (b:v.grownBy v' (some g)) (hg:w.heap.size≤g):Band Y X w v':=
 ⟨b.os.trans h.os,b.tape.trans h.tape,b.output.trans h.output,Nat.le_trans h.size b.size,fun j hj hh=>(b.block j (Nat.lt_of_lt_of_le hj h.size) (fun e=>by cases e;omega)).trans (h.block j hj hh)⟩
theorem Band.wide {Y X Y' X':Nat} {w w':World} (h:Band Y X w w') (h1:Y'≤Y) (h2:X≤X'):Band Y' X' w w':=
 ⟨h.os,h.tape,h.output,h.size,fun j hj hh=>h.block j hj (by omega)⟩
end Mem
namespace WWk
def zk1 (p:Nat):Value:= .iface 245 (.pointer (some ⟨p,0,none⟩))
def zl (x:Nat):Value:= .func (.func 161) #[] #[.pointer (some ⟨x,0,none⟩)]
structure Same (B lo hi:Nat) (W W':World):Prop where
 size:W.heap.size≤W'.heap.size
 block:∀b,b<W.heap.size→(b<B∨(lo≤b∧b<hi))→W'.heap[b]? =W.heap[b]?
def Ask (W:World) (v:Value) (q:ByteArray) (o:Option Pl.Nd) (lo hi:Nat) (Q:World→Prop):Prop:=
 ∃T x F r,v= .iface T x∧(∀m w,(method (m+1) T x "loop.example/g00449/impl.at").run Tryz.prog w= .ok (F,r) w)∧(∀w,(callFunc F #[r, .string q]).run Tryz.prog w= .ok (.enter F #[r, .string q]) w)∧
  Calls Tryz.prog F #[r, .string q] W fun e w'=>e= .returned (.tuple #[(o.getD Pl.za3).val, .bool o.isSome])∧Mem.Band lo hi W w'∧Q w'
structure Lv (W:World) (B lo hi x g n cap:Nat) (vs:Nat→Value) (bl bh:Nat→Nat):Prop where
 base:B≤lo
 xin:lo≤x∧x<hi
 gin:lo≤g∧g<hi
 size:hi≤W.heap.size
 box:Mem.Blk W x #[.slice (some ⟨g,0,none⟩) n cap] 244
 row:∀i,i<n→W.cell? ⟨g,i,none⟩=some (vs i)
 band:∀i,i<n→lo≤bl i∧bl i≤bh i∧bh i≤hi
 farX:∀i,i<n→x<bl i∨bh i≤x
 farG:∀i,i<n→g<bl i∨bh i≤g
 apart:∀i j,i<n→j<n→i≠j→bh i≤bl j∨bh j≤bl i
theorem Lv.keep {W W':World} {B lo hi x g n cap:Nat} {vs:Nat→Value} {bl bh:Nat→Nat} (h:Lv W B lo hi x g n cap vs bl bh) (hs:W.heap.size≤W'.heap.size) (hx:W'.heap[x]? =W.heap[x]?) (hg:W'.heap[g]? =W.heap[g]?):Lv W' B lo hi x g n cap vs bl bh:=
 ⟨h.base,h.xin,h.gin,Nat.le_trans h.size hs,hx.trans h.box,fun i hi=>(World.cell?_of_block hg).trans (h.row i hi),h.band,h.farX,h.farG,h.apart⟩
structure Sv (N:Nat) (W:World) (B lo hi x g n cap:Nat) (vs:Nat→Value) (bl bh:Nat→Nat) (hv:List Bool) (P Q:Nat→World→Prop) (j:Nat) (have':List Bool):Prop where
 lv:Lv W B lo hi x g n cap vs bl bh
 hiN:hi≤N
 NW:N≤W.heap.size
 todo:∀i,j≤i→i<n→hv[i]? =some true→P i W
 done:∀i:Nat,have'[i]? =some true→i<n∧Q i W
def Local (B:Nat) (lo hi:Nat) (P:World→Prop):Prop:=∀W W',hi≤W.heap.size→B≤W.heap.size→P W→Same B lo hi W W'→P W'
theorem Sv.keep {N:Nat} {W W':World} {B lo hi x g n cap:Nat} {vs:Nat→Value} {bl bh:Nat→Nat} {hv:List Bool} {P Q:Nat→World→Prop} {j:Nat} {hh:List Bool} (h:Sv N W B lo hi x g n cap vs bl bh hv P Q j hh)
  (hP:∀i,i<n→Local B (bl i) (bh i) (P i)) (hQ:∀i,i<n→Local B (bl i) (bh i) (Q i)) (hs:W.heap.size≤W'.heap.size) (hb:∀b,b<N→W'.heap[b]? =W.heap[b]?):Sv N W' B lo hi x g n cap vs bl bh hv P Q j hh:=by
 have hN:=h.hiN;have hNW:=h.NW;have hbB:=h.lv.base;have hx:=h.lv.xin;have hg:=h.lv.gin;have sm:∀i,i<n→Same B (bl i) (bh i) W W':=fun i hi=>⟨hs,fun b _ hh=>hb b (by have :=h.lv.band i hi;omega)⟩
 exact ⟨h.lv.keep hs (hb x (by omega)) (hb g (by omega)),h.hiN,Nat.le_trans h.NW hs,fun i h1 h2 h3=>hP i h2 W W' (by have :=h.lv.band i h2;omega) (by omega) (h.todo i h1 h2 h3) (sm i h2),
  fun i h1=>⟨(h.done i h1).1,hQ i (h.done i h1).1 W W' (by have :=h.lv.band i (h.done i h1).1;omega) (by omega) (h.done i h1).2 (sm i (h.done i h1).1)⟩⟩
theorem Sv.call {N:Nat} {W W':World} {B lo hi x g n cap:Nat} {vs:Nat→Value} {bl bh:Nat→Nat} {hv:List Bool} {P Q:Nat→World→Prop} {j:Nat} {hh:List Bool} (h:Sv N W B lo hi x g n cap vs bl bh hv P Q j hh)
  (hP:∀i,i<n→Local B (bl i) (bh i) (P i)) (hQ:∀i,i<n→Local B (bl i) (bh i) (Q i)) (b:Below W.heap.size W W'):Sv N W' B lo hi x g n cap vs bl bh hv P Q j hh:=
 h.keep hP hQ b.size (fun i hi=>b.block i (by have :=h.NW;omega))
theorem Sv.grown {N X:Nat} {W W':World} {B lo hi x g n cap:Nat} {vs:Nat→Value} {bl bh:Nat→Nat} {hv:List Bool} {P Q:Nat→World→Prop} {j:Nat} {hh:List Bool} (h:Sv N W B lo hi x g n cap vs bl bh hv P Q j hh)
  (hP:∀i,i<n→Local B (bl i) (bh i) (P i)) (hQ:∀i,i<n→Local B (bl i) (bh i) (Q i)) (b:W.grownBy W' (some X)) (hX:N≤X):Sv N W' B lo hi x g n cap vs bl bh hv P Q j hh:=
 h.keep hP hQ b.size (fun i hi=>b.block i (by have :=h.NW;omega) (fun e=>by cases e;omega))
theorem Sv.skip {N:Nat} {W:World} {B lo hi x g n cap:Nat} {vs:Nat→Value} {bl bh:Nat→Nat} {hv:List Bool} {P Q:Nat→World→Prop} {j:Nat} {hh:List Bool} (h:Sv N W B lo hi x g n cap vs bl bh hv P Q j hh):Sv N W B lo hi x g n cap vs bl bh hv P Q (j+1) hh:=
 ⟨h.lv,h.hiN,h.NW,fun i h1=>h.todo i (by omega),h.done⟩
theorem Sv.ask {N:Nat} {W W':World} {B lo hi x g n cap:Nat} {vs:Nat→Value} {bl bh:Nat→Nat} {hv:List Bool} {P Q:Nat→World→Prop} {j:Nat} {hh:List Bool} (h:Sv N W B lo hi x g n cap vs bl bh hv P Q j hh)
  (hP:∀i,i<n→Local B (bl i) (bh i) (P i)) (hQ:∀i,i<n→Local B (bl i) (bh i) (Q i)) (hj:j<n) (b:Mem.Band (bl j) (bh j) W W') (q:Q j W'):Sv N W' B lo hi x g n cap vs bl bh hv P Q (j+1) hh:=by
 have hN:=h.hiN;have hNW:=h.NW;have hx:=h.lv.xin;have hg:=h.lv.gin;have hB:=h.lv.base;have sm:∀i,i<n→i≠j→Same B (bl i) (bh i) W W':=fun i hi hne=>⟨b.size,fun c hc hh=>b.block c hc (by have h1:=h.lv.band j hj;have h2:=h.lv.apart i j hi hj hne;have h3:=h.lv.band i hi;omega)⟩;refine ⟨h.lv.keep b.size (b.block x (by omega) (h.lv.farX j hj)) (b.block g (by omega) (h.lv.farG j hj)),h.hiN,Nat.le_trans h.NW b.size,fun i h1 h2 h3=>hP i h2 W W' (by have :=h.lv.band i h2;omega) (by omega) (h.todo i (by omega) h2 h3) (sm i h2 (by omega)),fun i h1=>?_⟩;obtain ⟨h2,h3⟩:=h.done i h1;by_cases e:i=j
 ·subst e;exact ⟨h2,q⟩
 ·exact ⟨h2,hQ i h2 W W' (by have :=h.lv.band i h2;omega) (by omega) h3 (sm i h2 e)⟩
theorem Sv.take {N:Nat} {W:World} {B lo hi x g n cap:Nat} {vs:Nat→Value} {bl bh:Nat→Nat} {hv:List Bool} {P Q:Nat→World→Prop} {j k:Nat} {s:Pl.Sg} (h:Sv N W B lo hi x g n cap vs bl bh hv P Q j s.have') (hk:k<n) (q:Q k W) (m:Pl.Nd):Sv N W B lo hi x g n cap vs bl bh hv P Q j (Pl.zd6 s k m).have':=by
 refine ⟨h.lv,h.hiN,h.NW,h.todo,fun i hi=>?_⟩;simp only [Pl.zd6] at hi;by_cases e:i=k
 ·subst e;exact ⟨hk,q⟩
 ·rw [List.getElem?_set_ne (fun h=>e h.symm)] at hi;exact h.done i hi
theorem up_have {s:Pl.Sg} {i:Nat} (h:(Pl.upS s).have'[i]? =some true):s.have'[i]? =some true:=by
 unfold Pl.upS at h
 split at h
 ·exfalso;have :∀b∈Pl.Sg.zero.have',b=false:=by decide
  have :=this true (List.mem_of_getElem? h);cases this
 ·exact h
end WWk
end
section
open Go.RowKit Go.Maps
namespace WWk
open zi3
structure Sys (N lo hi x g n cap:Nat) (vs:Nat→Value) (hv:List Bool) (p:ByteArray) (f:Nat→Option Pl.Nd) (S:Nat→List Bool→World→Prop):Prop where
 hiN:hi≤N
 xN:x<N
 gN:g<N
 size:∀k hh W,S k hh W→N≤W.heap.size
 call:∀k hh W W',S k hh W→Below W.heap.size W W'→S k hh W'
 grown:∀k hh W W' X,S k hh W→W.grownBy W' (some X)→N≤X→S k hh W'
 skip:∀k hh W,S k hh W→S (k+1) hh W
 box:∀k hh W,S k hh W→W.cell? ⟨x,0,none⟩=some (.slice (some ⟨g,0,none⟩) n cap)
 row:∀k hh W,S k hh W→∀i,i<n→W.cell? ⟨g,i,none⟩=some (vs i)
 ask:∀k (s:Pl.Sg) W,S k s.have' W→k<n→hv[k]? =some true→Ask W (vs k) p (f k) lo hi (fun W'=>S (k+1) s.have' W'∧∀m,S (k+1) (Pl.zd6 s k m).have' W')
 mark:∀k m,f k=some m→0≤m.mark∧m.mark≤8
structure At (S:Nat→List Bool→World→Prop) (lo hi:Nat) (w wr:World) (a0 a1 a2 a3:Bool) (ns:List (Option Pl.Nd)) (k:Nat) (s:Pl.Sg):Prop where
 bel:Mem.Band lo hi w wr
 box:Mem.Blk wr w.heap.size #[.bool a0, .bool a1, .bool a2, .bool a3] 249
 res:Mem.Blk wr (w.heap.size+1) Pl.Sg.zero.cs.toArray 251
 seen:Mem.Blk wr (w.heap.size+1+1) s.cs.toArray 251
 len:s.have'.length=4
 mark:0≤s.node.mark∧s.node.mark≤8
 go:Pl.goD k s (ns.drop k)=Pl.goD 0 Pl.Sg.zero ns
 sv:S k s.have' wr
structure EndAt (S:Nat→List Bool→World→Prop) (lo hi:Nat) (w wr:World) (s:Pl.Sg):Prop where
 bel:Mem.Band lo hi w wr
 res:Mem.Blk wr (w.heap.size+1) Pl.Sg.zero.cs.toArray 251
 seen:Mem.Blk wr (w.heap.size+1+1) s.cs.toArray 251
 mark:0≤s.node.mark∧s.node.mark≤8
 sv:∃k,S k s.have' wr
theorem At.band {S:Nat→List Bool→World→Prop} {lo hi:Nat} {w wr w1:World} {a0 a1 a2 a3:Bool} {ns:List (Option Pl.Nd)} {k:Nat} {s:Pl.Sg} (h:At S lo hi w wr a0 a1 a2 a3 ns k s) (hN:hi≤w.heap.size) (b:Mem.Band lo hi wr w1):
  Mem.Band lo hi w w1∧Mem.Blk w1 w.heap.size #[.bool a0, .bool a1, .bool a2, .bool a3] 249∧Mem.Blk w1 (w.heap.size+1) Pl.Sg.zero.cs.toArray 251∧Mem.Blk w1 (w.heap.size+1+1) s.cs.toArray 251:=
 ⟨h.bel.trans b,b.blk h.box (.inr hN),b.blk h.res (.inr (by omega)),b.blk h.seen (.inr (by omega))⟩
theorem decW_any (p:ByteArray) (a0 a1 a2 a3:Bool) (lo hi x g n cap:Nat) (vs:Nat→Value) (f:Nat→Option Pl.Nd) (S:Nat→List Bool→World→Prop) (ns:List (Option Pl.Nd)) (w:World) (h4:n≤4) (hY:Sys w.heap.size lo hi x g n cap vs [a0,a1,a2,a3] p f S) (hS0:S 0 Pl.Sg.zero.have' w) (hlen:ns.length=n) (hns:∀i a,i<n→[a0,a1,a2,a3][i]? =some a→ns[i]? =some (if a then f i else none)):
  Calls Tryz.prog 161 #[.string p, .agg #[.bool a0, .bool a1, .bool a2, .bool a3], .pointer (some ⟨x,0,none⟩)] w fun e w'=>e= .returned (.agg (Pl.decS ns).cs.toArray)∧Mem.Band lo hi w w'∧∃k s,Pl.decS ns=Pl.upS s∧S k s.have' w':=by
 have HY:=hide hY;have HNG:=hide hns;have HNL:=hide hlen;have ED:Hid (Pl.decS ns=Pl.upS (Pl.goD 0 Pl.Sg.zero ns)):=rfl;generalize Pl.decS ns=R at ED ⊢;have B0:∀o1 o2 o3,Below w.heap.size w (((w.alloc o1).alloc o2).alloc o3):=fun o1 o2 o3=>((bE0).alloc (by simp) _).alloc (by simp;omega) _;have q0:=hY.box 0 _ _ (hY.call _ _ _ _ hS0 (B0 (.cells #[.bool a0, .bool a1, .bool a2, .bool a3] 249) (.cells Pl.Sg.zero.cs.toArray 251) (.cells Pl.Sg.zero.cs.toArray 251)));have c0:=hY.call _ _ _ _ hS0 (B0 (.cells #[.bool a0, .bool a1, .bool a2, .bool a3] 249) (.cells Pl.Sg.zero.cs.toArray 251) (.cells Pl.Sg.zero.cs.toArray 251));have b0:=B0 (.cells #[.bool a0, .bool a1, .bool a2, .bool a3] 249) (.cells Pl.Sg.zero.cs.toArray 251) (.cells Pl.Sg.zero.cs.toArray 251)
 clear hY hns hlen B0
 have A0:Hid (At S lo hi w (((w.alloc (.cells #[.bool a0, .bool a1, .bool a2, .bool a3] 249)).alloc (.cells Pl.Sg.zero.cs.toArray 251)).alloc (.cells Pl.Sg.zero.cs.toArray 251)) a0 a1 a2 a3 ns 0 Pl.Sg.zero):=by
  refine ⟨Mem.Band.of_below b0,((Mem.Blk.new _ _ _).alloc _).alloc _,Mem.Blk.alloc (Mem.zh9 _ _ _) _,?_,rfl,by decide,rfl,c0⟩;have h:=Mem.zh9 (w.alloc (.cells #[.bool a0, .bool a1, .bool a2, .bool a3] 249)) (.cells Pl.Sg.zero.cs.toArray 251) (.cells Pl.Sg.zero.cs.toArray 251);rw [show (w.alloc (.cells #[.bool a0, .bool a1, .bool a2, .bool a3] 249)).heap.size=w.heap.size+1 by simp] at h;exact h
 have hR:w.heap.size≤w.heap.size+1:=by omega
 clear b0 c0;simp only [Pl.Sg.zero,Pl.za3,Pl.Sg.cs,List.map_cons,List.map_nil,List.cons_append,List.nil_append] at A0 q0;go_enter Tryz.func161,Tryz.ntmps161
 go_wp2
 go_loopw [12] (fun i wr=>∃k:Nat,k≤n∧i= .int .i64 (k:Int)∧Hid (∃s,At S lo hi w wr a0 a1 a2 a3 ns k s)) (fun i _=>n - (intOf i).toNat)
 case atStart=>exact ⟨0,Nat.zero_le _,rfl,⟨_,za A0⟩⟩
 case round=>
  obtain ⟨k,hk,rfl,HA⟩:=hrel;obtain ⟨s,A⟩:=za HA;clear HA A0;obtain ⟨tt,⟨sp,sk,sd,st,sm⟩,sh⟩:=s
  obtain ⟨e0,e1,e2,e3,rfl⟩:∃h0 h1 h2 h3,sh=[h0,h1,h2,h3]:=by
   match sh,A.len with
   | [a,b,c,d],_=>exact ⟨a,b,c,d,rfl⟩
  by_cases hlt:k<n
  ·obtain ⟨x1,hx⟩:∃x1,[a0,a1,a2,a3][k]? =some x1:=⟨_,List.getElem?_eq_getElem (by simp;omega)⟩;have hnk:=za HNG k x1 hlt hx;have y1:(k:Int)<(n:Int):=by omega
   have hix:0≤(k:Int)∧(k:Int)<4:=by omega
   have hix2:0≤(k:Int)∧(k:Int)<(n:Int):=by omega
   have x0:wr.cell? ⟨w.heap.size,k,none⟩=some (.bool x1):=by
    rw [A.box.cell k,List.getElem?_toArray];obtain rfl |rfl |rfl |rfl:k=0∨k=1∨k=2∨k=3:=by omega
    all_goals (simp at hx;subst hx;rfl)
   cases x1
   ·have hgs:Pl.goD k ⟨tt,⟨sp,sk,sd,st,sm⟩,[e0,e1,e2,e3]⟩ (ns.drop k)=Pl.goD (k+1) ⟨tt,⟨sp,sk,sd,st,sm⟩,[e0,e1,e2,e3]⟩ (ns.drop (k+1)):=Pl.go_step (x:=none) hnk k _;have A2:Hid (∃s,At S lo hi w wr a0 a1 a2 a3 ns (k+1) s):=⟨_,A.bel,A.box,A.res,A.seen,A.len,A.mark,by rw [←A.go,hgs],(za HY).skip _ _ _ A.sv⟩;have q1:=(za HY).box _ _ _ A.sv;clear hnk hgs A hx;go_wp2
    go_roundw
    case rel=>exact ⟨k+1,by omega,by go_num,A2⟩
    case measure=>simp [intOf];omega
   ·have q1:=(za HY).box _ _ _ A.sv;obtain ⟨T,xv,F,r,hvk,hm,hcf,hat⟩:=(za HY).ask k ⟨tt,⟨sp,sk,sd,st,sm⟩,[e0,e1,e2,e3]⟩ _ A.sv hlt hx;have o0:=(za HY).row _ _ _ A.sv k hlt;rw [hvk] at o0;simp only [if_true] at hnk;cases hf:f k with
    |none=>
     rw [hf] at hat;replace hat:=hide hat;rw [hf] at hnk;have hgs:Pl.goD k ⟨tt,⟨sp,sk,sd,st,sm⟩,[e0,e1,e2,e3]⟩ (ns.drop k)=Pl.goD (k+1) ⟨tt,⟨sp,sk,sd,st,sm⟩,[e0,e1,e2,e3]⟩ (ns.drop (k+1)):=Pl.go_step hnk k _;simp only [Option.getD_none,Option.isSome_none,Pl.za3,Pl.Nd.val] at hat;have KA:=hide A;have EG:=hide hgs;clear hnk hgs A hx hvk hf;go_wp2_with fail
     refine (za hat).mono ?_;rintro e w1 ⟨rfl,b2,S2⟩
     have A2:Hid (∃s,At S lo hi w (w1.alloc (.cells #[.string ⟨#[]⟩, .int .i64 0, .string ⟨#[]⟩, .int .i64 0, .int .i64 0] 55)) a0 a1 a2 a3 ns (k+1) s):=by
      obtain ⟨g1,g2,g3,g4⟩:=(za KA).band (za HY).hiN b2;exact ⟨_,g1.alloc _,g2.alloc _,g3.alloc _,g4.alloc _,(za KA).len,(za KA).mark,by rw [←(za KA).go,za EG],(za HY).call _ _ _ _ S2.1 (bE0)⟩
     clear KA EG b2 hat S2;go_wp2
     go_roundw
     case rel=>exact ⟨k+1,by omega,by go_num,A2⟩
     case measure=>simp [intOf];omega
    |some m=>
     rw [hf] at hat;replace hat:=hide (hat.mono fun e w' h=>(⟨h.1,h.2.1,h.2.2.2 m⟩:_∧_∧_));have hmb:=(za HY).mark k m hf;rw [hf] at hnk;have hgs:Pl.goD k ⟨tt,⟨sp,sk,sd,st,sm⟩,[e0,e1,e2,e3]⟩ (ns.drop k)=if Pl.zh2 m then Pl.zd6 ⟨tt,⟨sp,sk,sd,st,sm⟩,[e0,e1,e2,e3]⟩ k m else Pl.goD (k+1) (Pl.zd6 ⟨tt,⟨sp,sk,sd,st,sm⟩,[e0,e1,e2,e3]⟩ k m) (ns.drop (k+1)):=Pl.go_step hnk k _;have htk:=hide (fun W (hbk:Mem.Blk W (w.heap.size+1+1) (Pl.Sg.cs ⟨tt,⟨sp,sk,sd,st,sm⟩,[e0,e1,e2,e3]⟩).toArray 251)=>take_any (w.heap.size+1+1) k ⟨tt,⟨sp,sk,sd,st,sm⟩,[e0,e1,e2,e3]⟩ m W (by omega) rfl hbk);have TL:=hide (Pl.take_len ⟨tt,⟨sp,sk,sd,st,sm⟩,[e0,e1,e2,e3]⟩ k m);have TM:=hide (Pl.take_mark (k:=k) A.mark hmb);have KA:=hide A;have EG:=hide hgs;clear hnk hgs A hx hvk hf hmb;generalize Pl.zd6 ⟨tt,⟨sp,sk,sd,st,sm⟩,[e0,e1,e2,e3]⟩ k m=s2 at htk TL TM EG hat;cases hsb:Pl.zh2 m
     ·rw [hsb] at htk EG;obtain ⟨mp,mk,md,mt,mm⟩:=m;simp only [Option.getD_some,Option.isSome_some,Pl.Nd.val] at hat htk;go_wp2_with fail
      refine (za hat).mono ?_;rintro e w1 ⟨rfl,b2,S2⟩;have KGO:=hide (za KA).go;obtain ⟨g1,g2,g3,g4⟩:=(za KA).band (za HY).hiN b2;have A3:=hide (⟨g1.alloc (.cells #[.string mp, .int .i64 mk, .string md, .int .i64 mt, .int .i64 mm] 55),g2.alloc (.cells #[.string mp, .int .i64 mk, .string md, .int .i64 mt, .int .i64 mm] 55),g3.alloc (.cells #[.string mp, .int .i64 mk, .string md, .int .i64 mt, .int .i64 mm] 55),g4.alloc (.cells #[.string mp, .int .i64 mk, .string md, .int .i64 mt, .int .i64 mm] 55),(za HY).call _ _ _ _ S2 ((Below.refl _ _).alloc (Nat.le_refl _) (.cells #[.string mp, .int .i64 mk, .string md, .int .i64 mt, .int .i64 mm] 55))⟩:_∧_∧_∧_∧_);clear KA b2 hat S2 g1 g2 g3 g4;go_wp2_with fail
      refine (za htk _ (za A3).2.2.2.1).mono ?_;rintro e w2 ⟨rfl,hs2,g2⟩;have A4:Hid (∃s,At S lo hi w w2 a0 a1 a2 a3 ns (k+1) s):=⟨s2,(za A3).1.grown g2 (by omega),(za A3).2.1.grown g2 (fun e=>by have :=Option.some.inj e;omega),(za A3).2.2.1.grown g2 (fun e=>by have :=Option.some.inj e;omega),hs2,za TL,za TM,by rw [←za KGO,za EG];rfl,(za HY).grown _ _ _ _ _ (za A3).2.2.2.2 g2 (by omega)⟩;clear A3 hs2 g2 htk EG TL TM KGO;go_wp2
      go_roundw
      case rel=>exact ⟨k+1,by omega,by go_num,A4⟩
      case measure=>simp [intOf];omega
     ·rw [hsb] at htk EG;obtain ⟨mp,mk,md,mt,mm⟩:=m;simp only [Option.getD_some,Option.isSome_some,Pl.Nd.val] at hat htk;go_wp2_with fail
      refine (za hat).mono ?_;rintro e w1 ⟨rfl,b2,S2⟩;have KGO:=hide (za KA).go;obtain ⟨g1,g2,g3,g4⟩:=(za KA).band (za HY).hiN b2;have A3:=hide (⟨g1.alloc (.cells #[.string mp, .int .i64 mk, .string md, .int .i64 mt, .int .i64 mm] 55),g2.alloc (.cells #[.string mp, .int .i64 mk, .string md, .int .i64 mt, .int .i64 mm] 55),g3.alloc (.cells #[.string mp, .int .i64 mk, .string md, .int .i64 mt, .int .i64 mm] 55),g4.alloc (.cells #[.string mp, .int .i64 mk, .string md, .int .i64 mt, .int .i64 mm] 55),(za HY).call _ _ _ _ S2 ((Below.refl _ _).alloc (Nat.le_refl _) (.cells #[.string mp, .int .i64 mk, .string md, .int .i64 mt, .int .i64 mm] 55))⟩:_∧_∧_∧_∧_);clear KA b2 hat S2 g1 g2 g3 g4;go_wp2_with fail
      refine (za htk _ (za A3).2.2.2.1).mono ?_;rintro e w2 ⟨rfl,hs2,g2⟩;have GO:=KGO;have A4:Hid (Mem.Blk w2 (w.heap.size+1) Pl.Sg.zero.cs.toArray 251∧Mem.Band lo hi w w2∧S (k+1) s2.have' w2):=⟨(za A3).2.2.1.grown g2 (fun e=>by have :=Option.some.inj e;omega),(za A3).1.grown g2 (by omega),(za HY).grown _ _ _ _ _ (za A3).2.2.2.2 g2 (by omega)⟩;clear A3 g2 htk q1 o0 x0;obtain ⟨tt2,⟨sp2,sk2,sd2,st2,sm2⟩,sh2⟩:=s2
      obtain ⟨e4,e5,e6,e7,rfl⟩:∃h0 h1 h2 h3,sh2=[h0,h1,h2,h3]:=by
       match sh2,za TL with
       | [a,b,c,d],_=>exact ⟨a,b,c,d,rfl⟩
      have KA:Hid (EndAt S lo hi w w2 ⟨tt2,⟨sp2,sk2,sd2,st2,sm2⟩,[e4,e5,e6,e7]⟩):=⟨(za A4).2.1,(za A4).1,hs2,za TM,_,(za A4).2.2⟩;have EQ:Hid (R=Pl.upS ⟨tt2,⟨sp2,sk2,sd2,st2,sm2⟩,[e4,e5,e6,e7]⟩):=by rw [za ED,←za GO,za EG];exact rfl
      clear hs2 A4 TL TM EG GO KGO;have c0:=(za KA).seen.cell 0;have c1:=(za KA).seen.cell 1;have c2:=(za KA).seen.cell 2;have c3:=(za KA).seen.cell 3;have c4:=(za KA).seen.cell 4;have c5:=(za KA).seen.cell 5;have c6:=(za KA).seen.cell 6;have c7:=(za KA).seen.cell 7;have c8:=(za KA).seen.cell 8;have c9:=(za KA).seen.cell 9;simp only [Pl.Sg.cs,List.map_cons,List.map_nil,List.cons_append,List.nil_append,kGs] at c0 c1 c2 c3 c4 c5 c6 c7 c8 c9;have hup:=hide (fun W=>up_any ⟨tt2,⟨sp2,sk2,sd2,st2,sm2⟩,[e4,e5,e6,e7]⟩ W rfl (by have :=(za KA).mark;omega));have HU4:=hide (Pl.up_len (s:=⟨tt2,⟨sp2,sk2,sd2,st2,sm2⟩,[e4,e5,e6,e7]⟩) rfl);have ER:Hid (R=Pl.upS ⟨tt2,⟨sp2,sk2,sd2,st2,sm2⟩,[e4,e5,e6,e7]⟩):=za EQ;generalize Pl.upS ⟨tt2,⟨sp2,sk2,sd2,st2,sm2⟩,[e4,e5,e6,e7]⟩=U at hup HU4 ER;obtain ⟨ut,⟨up,uk,ud,un,um⟩,uh⟩:=U
      obtain ⟨g0,g1,g2,g3,rfl⟩:∃h0 h1 h2 h3,uh=[h0,h1,h2,h3]:=by
       match uh,za HU4 with
       | [a,b,c,d],_=>exact ⟨a,b,c,d,rfl⟩
      rw [show (Pl.Sg.cs ⟨tt2,⟨sp2,sk2,sd2,st2,sm2⟩,[e4,e5,e6,e7]⟩).toArray=#[.bool tt2, .string sp2, .int .i64 sk2, .string sd2, .int .i64 st2, .int .i64 sm2, .bool e4, .bool e5, .bool e6, .bool e7] from rfl,show (Pl.Sg.cs ⟨ut,⟨up,uk,ud,un,um⟩,[g0,g1,g2,g3]⟩).toArray=#[.bool ut, .string up, .int .i64 uk, .string ud, .int .i64 un, .int .i64 um, .bool g0, .bool g1, .bool g2, .bool g3] from rfl] at hup;go_wp2_with fail
      refine (za hup _).mono ?_;rintro e wU ⟨rfl,bU⟩;have RU:=(za KA).res.call bU;have GU:=hide (za2 (za2 (za2 (za2 (za2 (za2 (za2 (za2 (za2 (za2 (Mem.za4 bU (some (w.heap.size+1))) 0 (.bool ut)) 1 (.string up)) 2 (.int .i64 uk)) 3 (.string ud)) 4 (.int .i64 un)) 5 (.int .i64 um)) 6 (.bool g0)) 7 (.bool g1)) 8 (.bool g2)) 9 (.bool g3));clear c0 c1 c2 c3 c4 c5 c6 c7 c8 c9 hup bU;have c0:=RU.cell 0;have c1:=RU.cell 1;have c2:=RU.cell 2;have c3:=RU.cell 3;have c4:=RU.cell 4;have c5:=RU.cell 5;have c6:=RU.cell 6;have c7:=RU.cell 7;have c8:=RU.cell 8;have c9:=RU.cell 9;have f0:=RU.fr 0;have f1:=RU.fr 1;have f2:=RU.fr 2;have f3:=RU.fr 3;have f4:=RU.fr 4;have f5:=RU.fr 5;have f6:=RU.fr 6;have f7:=RU.fr 7;have f8:=RU.fr 8;have f9:=RU.fr 9;simp only [Pl.Sg.zero,Pl.za3,Pl.Sg.cs,List.map_cons,List.map_nil,List.cons_append,List.nil_append,kGs] at c0 c1 c2 c3 c4 c5 c6 c7 c8 c9;clear RU;go_wp2
      refine bodyPost_ret (v:= .agg #[.bool ut, .string up, .int .i64 uk, .string ud, .int .i64 un, .int .i64 um, .bool g0, .bool g1, .bool g2, .bool g3]) (by simp [results,Tryz.results161,go_sem,c0,c1,c2,c3,c4,c5,c6,c7,c8,c9]) rfl ⟨by rw [za ER];rfl,?_⟩;exact ⟨(za KA).bel.grown (za GU) (by omega),_,_,za EQ,(za HY).grown _ _ _ _ _ (za KA).sv.choose_spec (za GU) (by omega)⟩
  ·obtain rfl:n=k:=by omega
   have y1:¬ ((n:Int)<(n:Int)):=by omega
   have q1:=(za HY).box _ _ _ A.sv;have KA:=hide A;clear A;have c0:=(za KA).seen.cell 0;have c1:=(za KA).seen.cell 1;have c2:=(za KA).seen.cell 2;have c3:=(za KA).seen.cell 3;have c4:=(za KA).seen.cell 4;have c5:=(za KA).seen.cell 5;have c6:=(za KA).seen.cell 6;have c7:=(za KA).seen.cell 7;have c8:=(za KA).seen.cell 8;have c9:=(za KA).seen.cell 9;simp only [Pl.Sg.cs,List.map_cons,List.map_nil,List.cons_append,List.nil_append,kGs] at c0 c1 c2 c3 c4 c5 c6 c7 c8 c9;have hup:=hide (fun W=>up_any ⟨tt,⟨sp,sk,sd,st,sm⟩,[e0,e1,e2,e3]⟩ W rfl (by have :=(za KA).mark;omega));have HU4:=hide (Pl.up_len (s:=⟨tt,⟨sp,sk,sd,st,sm⟩,[e0,e1,e2,e3]⟩) rfl);have EQ:Hid (R=Pl.upS ⟨tt,⟨sp,sk,sd,st,sm⟩,[e0,e1,e2,e3]⟩):=by rw [za ED,←(za KA).go,Pl.go_end (by rw [za HNL];exact Nat.le_refl _)];exact rfl
   have ER:Hid (R=Pl.upS ⟨tt,⟨sp,sk,sd,st,sm⟩,[e0,e1,e2,e3]⟩):=EQ;generalize Pl.upS ⟨tt,⟨sp,sk,sd,st,sm⟩,[e0,e1,e2,e3]⟩=U at hup HU4 ER;obtain ⟨ut,⟨up,uk,ud,un,um⟩,uh⟩:=U
   obtain ⟨g0,g1,g2,g3,rfl⟩:∃h0 h1 h2 h3,uh=[h0,h1,h2,h3]:=by
    match uh,za HU4 with
    | [a,b,c,d],_=>exact ⟨a,b,c,d,rfl⟩
   rw [show (Pl.Sg.cs ⟨tt,⟨sp,sk,sd,st,sm⟩,[e0,e1,e2,e3]⟩).toArray=#[.bool tt, .string sp, .int .i64 sk, .string sd, .int .i64 st, .int .i64 sm, .bool e0, .bool e1, .bool e2, .bool e3] from rfl,show (Pl.Sg.cs ⟨ut,⟨up,uk,ud,un,um⟩,[g0,g1,g2,g3]⟩).toArray=#[.bool ut, .string up, .int .i64 uk, .string ud, .int .i64 un, .int .i64 um, .bool g0, .bool g1, .bool g2, .bool g3] from rfl] at hup;go_wp2_with fail
   refine (za hup _).mono ?_;rintro e wU ⟨rfl,bU⟩;have RU:=(za KA).res.call bU;have GU:=hide (za2 (za2 (za2 (za2 (za2 (za2 (za2 (za2 (za2 (za2 (Mem.za4 bU (some (w.heap.size+1))) 0 (.bool ut)) 1 (.string up)) 2 (.int .i64 uk)) 3 (.string ud)) 4 (.int .i64 un)) 5 (.int .i64 um)) 6 (.bool g0)) 7 (.bool g1)) 8 (.bool g2)) 9 (.bool g3));clear c0 c1 c2 c3 c4 c5 c6 c7 c8 c9 hup bU q1;have c0:=RU.cell 0;have c1:=RU.cell 1;have c2:=RU.cell 2;have c3:=RU.cell 3;have c4:=RU.cell 4;have c5:=RU.cell 5;have c6:=RU.cell 6;have c7:=RU.cell 7;have c8:=RU.cell 8;have c9:=RU.cell 9;have f0:=RU.fr 0;have f1:=RU.fr 1;have f2:=RU.fr 2;have f3:=RU.fr 3;have f4:=RU.fr 4;have f5:=RU.fr 5;have f6:=RU.fr 6;have f7:=RU.fr 7;have f8:=RU.fr 8;have f9:=RU.fr 9;simp only [Pl.Sg.zero,Pl.za3,Pl.Sg.cs,List.map_cons,List.map_nil,List.cons_append,List.nil_append,kGs] at c0 c1 c2 c3 c4 c5 c6 c7 c8 c9;clear RU;go_wp2
   refine bodyPost_ret (v:= .agg #[.bool ut, .string up, .int .i64 uk, .string ud, .int .i64 un, .int .i64 um, .bool g0, .bool g1, .bool g2, .bool g3]) (by simp [results,Tryz.results161,go_sem,c0,c1,c2,c3,c4,c5,c6,c7,c8,c9]) rfl ⟨by rw [za ER];rfl,?_⟩;exact ⟨(za KA).bel.grown (za GU) (by omega),_,_,za EQ,(za HY).grown _ _ _ _ _ (za KA).sv (za GU) (by omega)⟩
end WWk
end
section
open Go.RowKit Go.Maps
namespace Pl
theorem go_told:∀ (ns:List (Option Nd)) (k:Nat) (s:Sg),s.told=true→(goD k s ns).told=true:=by
 intro ns
 induction ns with
 |nil=>intro k s h;exact h
 |cons y ns ih=>
  intro k s h;cases y with
  |none=>exact ih _ _ h
  |some n=>
   rw [goD]
   split
   ·rfl
   ·exact ih _ _ rfl
theorem go_untold:∀ (ns:List (Option Nd)) (k:Nat) (s:Sg),(goD k s ns).told=false→goD k s ns=s:=by
 intro ns
 induction ns with
 |nil=>intro k s _;rfl
 |cons y ns ih=>
  intro k s h;cases y with
  |none=>exact ih _ _ h
  |some n=>
   exfalso;rw [goD] at h
   split at h
   ·cases h
   ·rw [go_told ns (k+1) (zd6 s k n) rfl] at h;cases h
theorem dec_untold {ns:List (Option Nd)} (h:(decS ns).told=false):decS ns=Sg.zero:=by
 unfold decS at h ⊢;by_cases ht:(goD 0 Sg.zero ns).told=false
 ·rw [go_untold _ _ _ ht];exact up_zero
 ·unfold upS at h ⊢
  split
  ·rfl
  ·next hn=>rw [if_neg hn] at h;exact absurd h ht
theorem tell_val (ns:List (Option Nd)):((zn7 (decS ns)).getD za3)=(decS ns).node∧(zn7 (decS ns)).isSome=(decS ns).told:=by
 unfold zn7;cases h:(decS ns).told
 ·rw [dec_untold h];exact ⟨rfl,rfl⟩
 ·exact ⟨rfl,rfl⟩
end Pl
namespace WWk
structure Co (P:Nat→World→Prop) (B lo hi p x g n cap:Nat) (vs:Nat→Value) (bl bh:Nat→Nat) (hv:List Bool) (W:World):Prop where
 lv:Lv W B lo hi x g n cap vs bl bh
 pin:lo≤p∧p<hi
 px:p≠x
 pg:p≠g
 farP:∀i,i<n→p<bl i∨bh i≤p
 blk:Mem.Blk W p (zl x::hv.map Value.bool).toArray 254
 kids:∀i:Nat,hv[i]? =some true→i<n∧P i W
def Lf (B:Nat) (L:List Pl.Nd) (v:Value) (W:World):Prop:=∃q,q<B∧v= .iface 130 (.map (some q))∧Mem.ownM W q L
def Wk (B:Nat):Nat→List Pl.Nd→Pl.Fx→List ByteArray→Value→Nat→Nat→World→Prop
 |0,L,_,_,v,_,_,W=>Lf B L v W
 |d+1,L,k,ps,v,lo,hi,W=>if k.len=0 then Lf B L v W else ∃p x g cap vs bl bh,v=zk1 p∧Co (fun i W=>∀L' k',Pl.kid k i=some (L',k')→Wk B d L' k' ps (vs i) (bl i) (bh i) W) B lo hi p x g k.len cap vs bl bh (Pl.zf4 (Pl.fnsH k) (Pl.ze9 k.len) (Pl.hist ps)).have' W
theorem Co.same {P:Nat→World→Prop} {B lo hi p x g n cap:Nat} {vs:Nat→Value} {bl bh:Nat→Nat} {hv:List Bool} {W W':World} (h:Co P B lo hi p x g n cap vs bl bh hv W) (hP:∀i,i<n→Local B (bl i) (bh i) (P i)) (s:Same B lo hi W W'):Co P B lo hi p x g n cap vs bl bh hv W':=by
 have hsz:=h.lv.size;have hB:=h.lv.base;have e:∀b,lo≤b→b<hi→W'.heap[b]? =W.heap[b]?:=fun b h1 h2=>s.block b (by omega) (.inr ⟨h1,h2⟩);refine ⟨h.lv.keep s.size (e x h.lv.xin.1 h.lv.xin.2) (e g h.lv.gin.1 h.lv.gin.2),h.pin,h.px,h.pg,h.farP,(e p h.pin.1 h.pin.2).trans h.blk,fun i hi=>?_⟩;obtain ⟨h1,h2⟩:=h.kids i hi;have hb:=h.lv.band i h1;exact ⟨h1,hP i h1 W W' (by omega) (by omega) h2 ⟨s.size,fun b hb1 hb2=>s.block b hb1 (by omega)⟩⟩
theorem Lf.same {B:Nat} {L:List Pl.Nd} {v:Value} {W W':World} (h:Lf B L v W) (e:∀b,b<B→b<W.heap.size→W'.heap[b]? =W.heap[b]?):Lf B L v W':=by
 obtain ⟨q,h1,h2,h3⟩:=h;exact ⟨q,h1,h2,h3.same (e q h1 h3.lt)⟩
theorem zt5 (B:Nat):∀ (d:Nat) (L:List Pl.Nd) (k:Pl.Fx) (ps:List ByteArray) (v:Value) (lo hi:Nat),Local B lo hi (Wk B d L k ps v lo hi):=by
 intro d
 induction d with
 |zero=>intro L k ps v lo hi W W' _ _ h s;exact Lf.same h (fun b h1 h2=>s.block b h2 (.inl h1))
 |succ d ih=>
  intro L k ps v lo hi W W' h1 h2 h s;simp only [Wk] at h ⊢
  split at h
  ·next hk=>rw [if_pos hk];exact Lf.same h (fun b h1 h2=>s.block b h2 (.inl h1))
  ·next hk=>
   rw [if_neg hk];obtain ⟨p,x,g,cap,vs,bl,bh,rfl,c⟩:=h;exact ⟨p,x,g,cap,vs,bl,bh,rfl,c.same (fun i _ W W' a1 a2 hh ss L' k' e=>ih L' k' ps (vs i) (bl i) (bh i) W W' a1 a2 (hh L' k' e) ss) s⟩
theorem zz5 {B d:Nat} {L:List Pl.Nd} {k:Pl.Fx} {ps:List ByteArray} {v:Value} {lo hi:Nat} {W W':World} (h:Wk B d L k ps v lo hi W) (h1:hi≤W.heap.size) (h2:B≤W.heap.size) (b:Below W.heap.size W W'):Wk B d L k ps v lo hi W':=
 zt5 B d L k ps v lo hi W W' h1 h2 h ⟨b.size,fun i hi _=>b.block i hi⟩
structure Mid (Q:Nat→World→Prop) (B lo hi p x g n cap:Nat) (vs:Nat→Value) (bl bh:Nat→Nat) (cs:Array Value) (hv:List Bool) (W:World):Prop where
 lv:Lv W B lo hi x g n cap vs bl bh
 blk:Mem.Blk W p cs 254
 kids:∀i:Nat,hv[i]? =some true→i<n∧Q i W
theorem Mid.alloc {Q:Nat→World→Prop} {B lo hi p x g n cap:Nat} {vs:Nat→Value} {bl bh:Nat→Nat} {cs:Array Value} {hv:List Bool} {W W':World} (h:Mid Q B lo hi p x g n cap vs bl bh cs hv W) (hQ:∀i,i<n→Local B (bl i) (bh i) (Q i)) (b:Below W.heap.size W W'):Mid Q B lo hi p x g n cap vs bl bh cs hv W':=by
 have hsz:=h.lv.size;have hB:=h.lv.base;have hx:=h.lv.xin;have hg:=h.lv.gin;refine ⟨h.lv.keep b.size (b.block x (by omega)) (b.block g (by omega)),h.blk.call b,fun i hi=>?_⟩;obtain ⟨h1,h2⟩:=h.kids i hi;have hb:=h.lv.band i h1;exact ⟨h1,hQ i h1 W W' (by omega) (by omega) h2 ⟨b.size,fun c hc _=>b.block c hc⟩⟩
theorem Mid.grown {Q:Nat→World→Prop} {B lo hi p x g n cap X:Nat} {vs:Nat→Value} {bl bh:Nat→Nat} {cs:Array Value} {hv:List Bool} {W W':World} (h:Mid Q B lo hi p x g n cap vs bl bh cs hv W) (hQ:∀i,i<n→Local B (bl i) (bh i) (Q i)) (b:W.grownBy W' (some X)) (hX:hi≤X) (hp:p<hi):Mid Q B lo hi p x g n cap vs bl bh cs hv W':=by
 have hsz:=h.lv.size;have hB:=h.lv.base;have hx:=h.lv.xin;have hg:=h.lv.gin;have e:∀c,c<hi→W'.heap[c]? =W.heap[c]?:=fun c hc=>b.block c (by omega) (fun e=>by cases e;omega);refine ⟨h.lv.keep b.size (e x hx.2) (e g hg.2),(e p hp).trans h.blk,fun i hi=>?_⟩;obtain ⟨h1,h2⟩:=h.kids i hi;have hb:=h.lv.band i h1;exact ⟨h1,hQ i h1 W W' (by omega) (by omega) h2 ⟨b.size,fun c hc hh=>e c (by omega)⟩⟩
theorem Mid.co {Q:Nat→World→Prop} {B lo hi p x g n cap:Nat} {vs:Nat→Value} {bl bh:Nat→Nat} {cs cs':Array Value} {hv:List Bool} {W W':World} (h:Mid Q B lo hi p x g n cap vs bl bh cs hv W) (hQ:∀i,i<n→Local B (bl i) (bh i) (Q i)) (hp:lo≤p∧p<hi) (px:p≠x) (pg:p≠g) (fp:∀i,i<n→p<bl i∨bh i≤p)
  (b:W.grownBy W' (some p)) (k:Mem.Blk W' p cs' 254) (e:cs'=(zl x::hv.map Value.bool).toArray):Co Q B lo hi p x g n cap vs bl bh hv W':=by
 have hsz:=h.lv.size;have hB:=h.lv.base;have hx:=h.lv.xin;have hg:=h.lv.gin;have e2:∀c,c<hi→c≠p→W'.heap[c]? =W.heap[c]?:=fun c hc hn=>b.block c (by omega) (fun e=>hn (Option.some.inj e));refine ⟨h.lv.keep b.size (e2 x hx.2 (fun e=>px e.symm)) (e2 g hg.2 (fun e=>pg e.symm)),hp,px,pg,fp,by rw [←e];exact k,fun i hi=>?_⟩;obtain ⟨h1,h2⟩:=h.kids i hi;have hb:=h.lv.band i h1;have hf:=fp i h1;exact ⟨h1,hQ i h1 W W' (by omega) (by omega) h2 ⟨b.size,fun c hc hh=>e2 c (by omega) (by omega)⟩⟩
theorem sys_of {P Q:Nat→World→Prop} {B lo hi p x g n cap N:Nat} {vs:Nat→Value} {bl bh:Nat→Nat} {hv:List Bool} {cs:Array Value} {T:TypeId} {q:ByteArray} {f:Nat→Option Pl.Nd} (hiN:hi≤N) (hx:x<hi) (hg:g<hi) (hp:lo≤p∧p<hi) (fp:∀i,i<n→p<bl i∨bh i≤p) (hb:∀i,i<n→lo≤bl i∧bl i≤bh i∧bh i≤hi)
  (hP:∀i,i<n→Local B (bl i) (bh i) (P i)) (hQ:∀i,i<n→Local B (bl i) (bh i) (Q i)) (hA:∀i W,i<n→hi≤W.heap.size→P i W→Ask W (vs i) q (f i) (bl i) (bh i) (Q i)) (hm:∀k m,f k=some m→0≤m.mark∧m.mark≤8):
  Sys N lo hi x g n cap vs hv q f (fun k hh W=>Sv N W B lo hi x g n cap vs bl bh hv P Q k hh∧Mem.Blk W p cs T):=by
 refine ⟨hiN,by omega,by omega,fun k hh W h=>h.1.NW,fun k hh W W' h b=>⟨h.1.call hP hQ b,h.2.call b⟩,fun k hh W W' X h b hX=>⟨h.1.grown hP hQ b hX,h.2.grown b (fun e=>by cases e;omega)⟩,fun k hh W h=>⟨h.1.skip,h.2⟩,fun k hh W h=>by have :=h.1.lv.box.cell 0;simpa using this,fun k hh W h i hi=>h.1.lv.row i hi,?_,hm⟩;intro k s W h hk hh;obtain ⟨T',x',F,r,h1,h2,h3,h4⟩:=hA k W hk (Nat.le_trans hiN h.1.NW) (h.1.todo k (Nat.le_refl _) hk hh);refine ⟨T',x',F,r,h1,h2,h3,h4.mono ?_⟩;rintro e w' ⟨rfl,b,q⟩;have hbb:=hb k hk;have s1:=h.1.ask hP hQ hk b q;have b1:Mem.Blk w' p cs T:=b.blk h.2 (fp k hk);exact ⟨rfl,b.wide hbb.1 hbb.2.2,⟨s1,b1⟩,fun m=>⟨s1.take hk q m,b1⟩⟩
theorem dec_walk {P Q:Nat→World→Prop} {B lo hi p x g n cap:Nat} {vs:Nat→Value} {bl bh:Nat→Nat} {W:World} {q:ByteArray} {f:Nat→Option Pl.Nd} {ns:List (Option Pl.Nd)} (a0 a1 a2 a3:Bool) (h:Co P B lo hi p x g n cap vs bl bh [a0,a1,a2,a3] W) (h4:n≤4)
  (hP:∀i,i<n→Local B (bl i) (bh i) (P i)) (hQ:∀i,i<n→Local B (bl i) (bh i) (Q i)) (hA:∀i W,i<n→hi≤W.heap.size→P i W→Ask W (vs i) q (f i) (bl i) (bh i) (Q i)) (hm:∀k m,f k=some m→0≤m.mark∧m.mark≤8)
  (hlen:ns.length=n) (hns:∀i a,i<n→[a0,a1,a2,a3][i]? =some a→ns[i]? =some (if a then f i else none)):
  Calls Tryz.prog 161 #[.string q, .agg #[.bool a0, .bool a1, .bool a2, .bool a3], .pointer (some ⟨x,0,none⟩)] W fun e w'=>e= .returned (.agg (Pl.decS ns).cs.toArray)∧Mem.Band lo hi W w'∧Mid Q B lo hi p x g n cap vs bl bh (zl x::[a0,a1,a2,a3].map Value.bool).toArray (Pl.decS ns).have' w':=by
 have hy:=sys_of (N:=W.heap.size) (hv:=[a0,a1,a2,a3]) (cap:=cap) (cs:=(zl x::[a0,a1,a2,a3].map Value.bool).toArray) (T:=254) h.lv.size h.lv.xin.2 h.lv.gin.2 h.pin h.farP h.lv.band hP hQ hA hm;refine (decW_any q a0 a1 a2 a3 lo hi x g n cap vs f _ ns W h4 hy ⟨⟨h.lv,h.lv.size,Nat.le_refl _,fun i _ hi hh=>(h.kids i hh).2,fun i hh=>?_⟩,h.blk⟩ hlen hns).mono ?_
 ·exfalso;have :∀b∈Pl.Sg.zero.have',b=false:=by decide
  have :=this true (List.mem_of_getElem? hh);cases this
 ·rintro e w' ⟨rfl,b,k,s,es,sv,bk⟩;refine ⟨rfl,b,sv.lv,bk,fun i hi=>?_⟩;rw [es] at hi;exact sv.done i (up_have hi)
end WWk
end
end Go.Proofs.YtbomeifgfalmdaaGreatDoor
