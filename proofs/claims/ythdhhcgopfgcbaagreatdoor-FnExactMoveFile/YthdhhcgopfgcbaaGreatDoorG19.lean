/- Several texts of one claim in one file: WPutA, WIs, WCode. -/
import Derived.Test.YthdhhcgopfgcbaaGreatDoorWPutT
import Derived.Stop.Asserts
import Derived.Test.YthdhhcgopfgcbaaGreatDoorG02
namespace Go.Proofs.YthdhhcgopfgcbaaGreatDoor
section
open Go.RowKit
namespace WPutA
structure At (w W:World) (g:Nat) (L:List Pl.Nd) (n:Pl.Nd):Prop where
 bel:Below w.heap.size w W
 one:Mem.Blk W w.heap.size #[.slice (some ⟨g,0,none⟩) L.length L.length] 43
 two:Mem.Blk W (w.heap.size+1) n.cs.toArray 47
 three:Mem.Blk W (w.heap.size+1+1) #[.slice none 0 0, .int .i64 0] 64
theorem At.call {w W W':World} {g:Nat} {L:List Pl.Nd} {n:Pl.Nd} (h:At w W g L n) (b:Below W.heap.size W W'):At w W' g L n:=
 ⟨h.bel.trans (b.mono h.bel.size),h.one.call b,h.two.call b,h.three.call b⟩
end WPutA
end
section
open Go.RowKit Go.Extern.Stop Go.Stop Go.Extern
namespace WIs
theorem typeOfE (v:Value) (w:World):(ReflectliteType.typeOf #[.iface 242 v]).run Tryz.prog w= .ok (.iface 170 (.agg #[.pointer (some ⟨6,242,none⟩)])) w:=by kernel_rfl
theorem yj6:∃F,find Tryz.f195=some F∧∀w,(F #[.agg #[.pointer (some ⟨6,242,none⟩)]]).run Tryz.prog w= .ok (.bool true) w:=
 ⟨ReflectliteType.method fun t=>do Rtype.noPackHeld "Comparable" t;pure (.bool (←typeInfo t).comparable),by kernel_rfl,fun w=>by kernel_rfl⟩
theorem methodC (v:Value) (w:World):(Go.method 378 170 v "Comparable").run Tryz.prog w= .ok (195,v) w:=by kernel_rfl
theorem compI:(Tryz.prog.info? 242).map (·.comparable)=some true:=by kernel_rfl
theorem sizeI:(Tryz.prog.info? 267).map (·.size)=some 1:=by kernel_rfl
theorem noIs (v:Value) (xT:TypeId) (w:World):(Instr.typeAssert (.iface 242 v) xT 172 true).run Tryz.prog w= .ok (.tuple #[.nilIface, .bool false]) w:=run_typeAssert_lacksB Tryz.underlying172 (by kernel_rfl) (by kernel_rfl) v xT w
theorem noUnwrap (v:Value) (xT:TypeId) (w:World):(Instr.typeAssert (.iface 242 v) xT 175 true).run Tryz.prog w= .ok (.tuple #[.nilIface, .bool false]) w:=run_typeAssert_lacksB Tryz.underlying175 (by kernel_rfl) (by kernel_rfl) v xT w
theorem noUnwraps (v:Value) (xT:TypeId) (w:World):(Instr.typeAssert (.iface 242 v) xT 177 true).run Tryz.prog w= .ok (.tuple #[.nilIface, .bool false]) w:=run_typeAssert_lacksB Tryz.underlying177 (by kernel_rfl) (by kernel_rfl) v xT w
theorem same (a:Addr) (w:World):
  Calls Tryz.prog 77 #[.iface 242 (.pointer (some a)), .iface 242 (.pointer (some a))] w fun e w'=>e= .returned (.bool true)∧w'=w:=by
 obtain ⟨i,hi,hcmp⟩:=Option.map_eq_some_iff.1 compI;obtain ⟨j,hj,hjs⟩:=Option.map_eq_some_iff.1 sizeI;have hT:=@run_callFunc_extern Tryz.prog 105 _ ReflectliteType.typeOf Tryz.func105 (by kernel_rfl) (by kernel_rfl) (by kernel_rfl) (by kernel_rfl);obtain ⟨F,hF,cT⟩:=yj6;have hC:=@run_callFunc_extern Tryz.prog 195 _ F Tryz.func195 (by kernel_rfl) (by kernel_rfl) (by kernel_rfl) hF;have tT:=typeOfE;have mR:=methodC;have heq:=run_eql_iface_ptr_same (P:=Tryz.prog) w a Tryz.underlying85 Tryz.underlying242 hi hcmp hj;go_enter Tryz.func77,Tryz.ntmps77
 go_wp2
 refine wp_loop_rounds 1 ?_;rw [rounds_succ];go_wp2
 go_ret
 exact ⟨rfl,rfl⟩
theorem other (a b:Addr) (ca cb:Array Value) (ta tb:TypeId) (w:World) (hne:a≠b) (ha:w.heap[a.block]? =some (.cells ca ta (0,0))) (hb:w.heap[b.block]? =some (.cells cb tb (0,0))):
  Calls Tryz.prog 77 #[.iface 242 (.pointer (some a)), .iface 242 (.pointer (some b))] w fun e w'=>e= .returned (.bool false)∧w'=w:=by
 obtain ⟨i,hi,hcmp⟩:=Option.map_eq_some_iff.1 compI;obtain ⟨j,hj,hjs⟩:=Option.map_eq_some_iff.1 sizeI;have hT:=@run_callFunc_extern Tryz.prog 105 _ ReflectliteType.typeOf Tryz.func105 (by kernel_rfl) (by kernel_rfl) (by kernel_rfl) (by kernel_rfl);obtain ⟨F,hF,cT⟩:=yj6;have hC:=@run_callFunc_extern Tryz.prog 195 _ F Tryz.func195 (by kernel_rfl) (by kernel_rfl) (by kernel_rfl) hF;have tT:=typeOfE;have mR:=methodC;have nE:=noIs;have uE:=noUnwrap;have vE:=noUnwraps;have heq:=run_eql_iface_ptr_other (P:=Tryz.prog) w Tryz.underlying85 Tryz.underlying242 hi hcmp hj (by rw [hjs];decide) hne ha hb;go_enter Tryz.func77,Tryz.ntmps77
 go_wp2
 refine wp_loop_rounds 1 ?_;rw [rounds_succ];go_wp2
 go_ret
 exact ⟨rfl,rfl⟩
end WIs
end
section
open Go.RowKit
namespace WIs
structure Six (w:World) (x:Nat→Addr):Prop where
 c0:w.cell? ⟨0,0,none⟩=some (.iface 242 (.pointer (some (x 0))))
 c1:w.cell? ⟨1,0,none⟩=some (.iface 242 (.pointer (some (x 1))))
 c2:w.cell? ⟨2,0,none⟩=some (.iface 242 (.pointer (some (x 2))))
 c3:w.cell? ⟨3,0,none⟩=some (.iface 242 (.pointer (some (x 3))))
 c4:w.cell? ⟨4,0,none⟩=some (.iface 242 (.pointer (some (x 4))))
 c5:w.cell? ⟨5,0,none⟩=some (.iface 242 (.pointer (some (x 5))))
 row:∀k,k<6→∃c t,w.heap[(x k).block]? =some (.cells c t (0,0))
 apart:∀i j,i<6→j<6→i≠j→x i≠x j
theorem Six.call {w w':World} {x:Nat→Addr} (h:Six w x) (b:Below w.heap.size w w'):Six w' x:=
 ⟨(b.cell (p:=⟨_,0,none⟩) (World.block_lt_of_cell? w ⟨_,0,none⟩ h.c0)).trans h.c0,(b.cell (p:=⟨_,0,none⟩) (World.block_lt_of_cell? w ⟨_,0,none⟩ h.c1)).trans h.c1,(b.cell (p:=⟨_,0,none⟩) (World.block_lt_of_cell? w ⟨_,0,none⟩ h.c2)).trans h.c2,(b.cell (p:=⟨_,0,none⟩) (World.block_lt_of_cell? w ⟨_,0,none⟩ h.c3)).trans h.c3,(b.cell (p:=⟨_,0,none⟩) (World.block_lt_of_cell? w ⟨_,0,none⟩ h.c4)).trans h.c4,(b.cell (p:=⟨_,0,none⟩) (World.block_lt_of_cell? w ⟨_,0,none⟩ h.c5)).trans h.c5,
  fun k hk=>by
   obtain ⟨c,t,hr⟩:=h.row k hk
   exact ⟨c,t,(b.block _ (Array.getElem?_eq_some_iff.1 hr).1).trans hr⟩,h.apart⟩
theorem Six.errs {w:World} {x:Nat→Addr} (h:Six w x):zc2.Errs w 242 242 242 (.pointer (some (x 1))) (.pointer (some (x 2))) (.pointer (some (x 3))):=⟨h.c1,h.c2,h.c3⟩
theorem Six.other {w:World} {x:Nat→Addr} (h:Six w x) (i j:Nat) (hi:i<6) (hj:j<6) (hij:i≠j):
  Calls Tryz.prog 77 #[.iface 242 (.pointer (some (x i))), .iface 242 (.pointer (some (x j)))] w fun e w'=>e= .returned (.bool false)∧w'=w:=by
 obtain ⟨c1,t1,h1⟩:=h.row i hi;obtain ⟨c2,t2,h2⟩:=h.row j hj;exact WIs.other (x i) (x j) c1 c2 t1 t2 w (h.apart i j hi hj hij) h1 h2
def codeOf:Nat→Int
 |0=>2
 |1=>1
 |2=>6
 |3=>12
 |4=>11
 |_=>9
set_option maxRecDepth 100000 in
set_option maxHeartbeats 400000 in
theorem code0 (x:Nat→Addr) (w:World) (h:Six w x):
  Calls Tryz.prog 44 #[.iface 242 (.pointer (some (x 0)))] w fun e w'=>e= .returned (.int .i64 2)∧w'=w:=by
 have k0:=h.c0;have k2:=h.c2;have k3:=h.c3;have k4:=h.c4;have k5:=h.c5;have H:=hide h;clear h;go_enter Tryz.func44,Tryz.ntmps44
 go_wp2_with fail
 refine (WIs.same (x 0) _).mono ?_;rintro e w1 ⟨rfl,rfl⟩;go_wp2
 go_ret
 exact ⟨rfl,rfl⟩
set_option maxRecDepth 100000 in
set_option maxHeartbeats 400000 in
theorem code1 (x:Nat→Addr) (w:World) (h:Six w x):
  Calls Tryz.prog 44 #[.iface 242 (.pointer (some (x 1)))] w fun e w'=>e= .returned (.int .i64 1)∧w'=w:=by
 have k0:=h.c0;have k2:=h.c2;have k3:=h.c3;have k4:=h.c4;have k5:=h.c5;have H:=hide h;clear h;go_enter Tryz.func44,Tryz.ntmps44
 go_wp2_with fail
 refine ((za H).other 1 0 (by decide) (by decide) (by decide)).mono ?_;rintro e w1 ⟨rfl,rfl⟩;go_wp2_with fail
 refine ((za H).other 1 2 (by decide) (by decide) (by decide)).mono ?_;rintro e w3 ⟨rfl,rfl⟩;go_wp2_with fail
 refine ((za H).other 1 3 (by decide) (by decide) (by decide)).mono ?_;rintro e w4 ⟨rfl,rfl⟩;go_wp2_with fail
 refine ((za H).other 1 4 (by decide) (by decide) (by decide)).mono ?_;rintro e w5 ⟨rfl,rfl⟩;go_wp2_with fail
 refine ((za H).other 1 5 (by decide) (by decide) (by decide)).mono ?_;rintro e w6 ⟨rfl,rfl⟩;go_wp2
 go_ret
 exact ⟨rfl,rfl⟩
set_option maxRecDepth 100000 in
set_option maxHeartbeats 400000 in
theorem code2 (x:Nat→Addr) (w:World) (h:Six w x):
  Calls Tryz.prog 44 #[.iface 242 (.pointer (some (x 2)))] w fun e w'=>e= .returned (.int .i64 6)∧w'=w:=by
 have k0:=h.c0;have k2:=h.c2;have k3:=h.c3;have k4:=h.c4;have k5:=h.c5;have H:=hide h;clear h;go_enter Tryz.func44,Tryz.ntmps44
 go_wp2_with fail
 refine ((za H).other 2 0 (by decide) (by decide) (by decide)).mono ?_;rintro e w1 ⟨rfl,rfl⟩;go_wp2_with fail
 refine (WIs.same (x 2) _).mono ?_;rintro e w1 ⟨rfl,rfl⟩;go_wp2
 go_ret
 exact ⟨rfl,rfl⟩
set_option maxRecDepth 100000 in
set_option maxHeartbeats 400000 in
theorem code3 (x:Nat→Addr) (w:World) (h:Six w x):
  Calls Tryz.prog 44 #[.iface 242 (.pointer (some (x 3)))] w fun e w'=>e= .returned (.int .i64 12)∧w'=w:=by
 have k0:=h.c0;have k2:=h.c2;have k3:=h.c3;have k4:=h.c4;have k5:=h.c5;have H:=hide h;clear h;go_enter Tryz.func44,Tryz.ntmps44
 go_wp2_with fail
 refine ((za H).other 3 0 (by decide) (by decide) (by decide)).mono ?_;rintro e w1 ⟨rfl,rfl⟩;go_wp2_with fail
 refine ((za H).other 3 2 (by decide) (by decide) (by decide)).mono ?_;rintro e w3 ⟨rfl,rfl⟩;go_wp2_with fail
 refine (WIs.same (x 3) _).mono ?_;rintro e w1 ⟨rfl,rfl⟩;go_wp2
 go_ret
 exact ⟨rfl,rfl⟩
set_option maxRecDepth 100000 in
set_option maxHeartbeats 400000 in
theorem code4 (x:Nat→Addr) (w:World) (h:Six w x):
  Calls Tryz.prog 44 #[.iface 242 (.pointer (some (x 4)))] w fun e w'=>e= .returned (.int .i64 11)∧w'=w:=by
 have k0:=h.c0;have k2:=h.c2;have k3:=h.c3;have k4:=h.c4;have k5:=h.c5;have H:=hide h;clear h;go_enter Tryz.func44,Tryz.ntmps44
 go_wp2_with fail
 refine ((za H).other 4 0 (by decide) (by decide) (by decide)).mono ?_;rintro e w1 ⟨rfl,rfl⟩;go_wp2_with fail
 refine ((za H).other 4 2 (by decide) (by decide) (by decide)).mono ?_;rintro e w3 ⟨rfl,rfl⟩;go_wp2_with fail
 refine ((za H).other 4 3 (by decide) (by decide) (by decide)).mono ?_;rintro e w4 ⟨rfl,rfl⟩;go_wp2_with fail
 refine (WIs.same (x 4) _).mono ?_;rintro e w1 ⟨rfl,rfl⟩;go_wp2
 go_ret
 exact ⟨rfl,rfl⟩
set_option maxRecDepth 100000 in
set_option maxHeartbeats 400000 in
theorem code5 (x:Nat→Addr) (w:World) (h:Six w x):
  Calls Tryz.prog 44 #[.iface 242 (.pointer (some (x 5)))] w fun e w'=>e= .returned (.int .i64 9)∧w'=w:=by
 have k0:=h.c0;have k2:=h.c2;have k3:=h.c3;have k4:=h.c4;have k5:=h.c5;have H:=hide h;clear h;go_enter Tryz.func44,Tryz.ntmps44
 go_wp2_with fail
 refine ((za H).other 5 0 (by decide) (by decide) (by decide)).mono ?_;rintro e w1 ⟨rfl,rfl⟩;go_wp2_with fail
 refine ((za H).other 5 2 (by decide) (by decide) (by decide)).mono ?_;rintro e w3 ⟨rfl,rfl⟩;go_wp2_with fail
 refine ((za H).other 5 3 (by decide) (by decide) (by decide)).mono ?_;rintro e w4 ⟨rfl,rfl⟩;go_wp2_with fail
 refine ((za H).other 5 4 (by decide) (by decide) (by decide)).mono ?_;rintro e w5 ⟨rfl,rfl⟩;go_wp2_with fail
 refine (WIs.same (x 5) _).mono ?_;rintro e w1 ⟨rfl,rfl⟩;go_wp2
 go_ret
 exact ⟨rfl,rfl⟩
end WIs
end
end Go.Proofs.YthdhhcgopfgcbaaGreatDoor
