/- Several texts of one claim in one file: WIs, WCode, MemUpA. -/
import Derived.Test.YtggadpalljhiaaaGreatDoorG00
import Derived.Below
import Derived.Test.YtggadpalljhiaaaGreatDoorProg
import Derived.WalkKit
import Derived.Laws.IdiomStrings
import Derived.LaidEql
import Derived.Stop.Asserts
import Derived.Test.YtggadpalljhiaaaGreatDoorG16
import Derived.Test.YtggadpalljhiaaaGreatDoorG11
import Derived.Deep.Upon
namespace Go.Proofs.YtggadpalljhiaaaGreatDoor
section
open Go.RowKit Go.Extern.Stop Go.Stop Go.Extern
namespace WIs
theorem typeOfE (v:Value) (w:World):(ReflectliteType.typeOf #[.iface 213 v]).run Tryz.prog w= .ok (.iface 141 (.agg #[.pointer (some ⟨6,213,none⟩)])) w:=by kernel_rfl
theorem comparableE:∃F,find Tryz.f172=some F∧∀w,(F #[.agg #[.pointer (some ⟨6,213,none⟩)]]).run Tryz.prog w= .ok (.bool true) w:=
 ⟨ReflectliteType.method fun t=>do Rtype.noPackHeld "Comparable" t;pure (.bool (←typeInfo t).comparable),by kernel_rfl,fun w=>by kernel_rfl⟩
theorem methodC (v:Value) (w:World):(Go.method 350 141 v "Comparable").run Tryz.prog w= .ok (172,v) w:=by kernel_rfl
theorem compI:(Tryz.prog.info? 213).map (·.comparable)=some true:=by kernel_rfl
theorem sizeI:(Tryz.prog.info? 239).map (·.size)=some 1:=by kernel_rfl
theorem noIs (v:Value) (xT:TypeId) (w:World):(Instr.typeAssert (.iface 213 v) xT 143 true).run Tryz.prog w= .ok (.tuple #[.nilIface, .bool false]) w:=run_typeAssert_lacksB Tryz.underlying143 (by kernel_rfl) (by kernel_rfl) v xT w
theorem noUnwrap (v:Value) (xT:TypeId) (w:World):(Instr.typeAssert (.iface 213 v) xT 146 true).run Tryz.prog w= .ok (.tuple #[.nilIface, .bool false]) w:=run_typeAssert_lacksB Tryz.underlying146 (by kernel_rfl) (by kernel_rfl) v xT w
theorem noUnwraps (v:Value) (xT:TypeId) (w:World):(Instr.typeAssert (.iface 213 v) xT 148 true).run Tryz.prog w= .ok (.tuple #[.nilIface, .bool false]) w:=run_typeAssert_lacksB Tryz.underlying148 (by kernel_rfl) (by kernel_rfl) v xT w
theorem same (a:Addr) (w:World):
  Calls Tryz.prog 33 #[.iface 213 (.pointer (some a)), .iface 213 (.pointer (some a))] w fun e w'=>e= .returned (.bool true)∧w'=w:=by
 obtain ⟨i,hi,hcmp⟩:=Option.map_eq_some_iff.1 compI;obtain ⟨j,hj,hjs⟩:=Option.map_eq_some_iff.1 sizeI;have hT:=@run_callFunc_extern Tryz.prog 57 _ ReflectliteType.typeOf Tryz.func57 (by kernel_rfl) (by kernel_rfl) (by kernel_rfl) (by kernel_rfl);obtain ⟨F,hF,cT⟩:=comparableE;have hC:=@run_callFunc_extern Tryz.prog 172 _ F Tryz.func172 (by kernel_rfl) (by kernel_rfl) (by kernel_rfl) hF;have tT:=typeOfE;have mR:=methodC;have heq:=run_eql_iface_ptr_same (P:=Tryz.prog) w a Tryz.underlying66 Tryz.underlying213 hi hcmp hj;go_enter Tryz.func33,Tryz.ntmps33
 go_wp2
 refine wp_loop_rounds 1 ?_;rw [rounds_succ];go_wp2
 go_ret
 exact ⟨rfl,rfl⟩
theorem other (a b:Addr) (ca cb:Array Value) (ta tb:TypeId) (w:World) (hne:a≠b) (ha:w.heap[a.block]? =some (.cells ca ta (0,0))) (hb:w.heap[b.block]? =some (.cells cb tb (0,0))):
  Calls Tryz.prog 33 #[.iface 213 (.pointer (some a)), .iface 213 (.pointer (some b))] w fun e w'=>e= .returned (.bool false)∧w'=w:=by
 obtain ⟨i,hi,hcmp⟩:=Option.map_eq_some_iff.1 compI;obtain ⟨j,hj,hjs⟩:=Option.map_eq_some_iff.1 sizeI;have hT:=@run_callFunc_extern Tryz.prog 57 _ ReflectliteType.typeOf Tryz.func57 (by kernel_rfl) (by kernel_rfl) (by kernel_rfl) (by kernel_rfl);obtain ⟨F,hF,cT⟩:=comparableE;have hC:=@run_callFunc_extern Tryz.prog 172 _ F Tryz.func172 (by kernel_rfl) (by kernel_rfl) (by kernel_rfl) hF;have tT:=typeOfE;have mR:=methodC;have nE:=noIs;have uE:=noUnwrap;have vE:=noUnwraps;have heq:=run_eql_iface_ptr_other (P:=Tryz.prog) w Tryz.underlying66 Tryz.underlying213 hi hcmp hj (by rw [hjs];decide) hne ha hb;go_enter Tryz.func33,Tryz.ntmps33
 go_wp2
 refine wp_loop_rounds 1 ?_;rw [rounds_succ];go_wp2
 go_ret
 exact ⟨rfl,rfl⟩
end WIs
end
section
open Go.RowKit
namespace WIs
structure Six (w:World) (x:Nat→Addr):Prop where
 c0:w.cell? ⟨0,0,none⟩=some (.iface 213 (.pointer (some (x 0))))
 c1:w.cell? ⟨1,0,none⟩=some (.iface 213 (.pointer (some (x 1))))
 c2:w.cell? ⟨2,0,none⟩=some (.iface 213 (.pointer (some (x 2))))
 c3:w.cell? ⟨3,0,none⟩=some (.iface 213 (.pointer (some (x 3))))
 c4:w.cell? ⟨4,0,none⟩=some (.iface 213 (.pointer (some (x 4))))
 c5:w.cell? ⟨5,0,none⟩=some (.iface 213 (.pointer (some (x 5))))
 row:∀k,k<6→∃c t,w.heap[(x k).block]? =some (.cells c t (0,0))
 apart:∀i j,i<6→j<6→i≠j→x i≠x j
theorem Six.call {w w':World} {x:Nat→Addr} (h:Six w x) (b:Below w.heap.size w w'):Six w' x:=
 ⟨(b.cell (p:=⟨_,0,none⟩) (World.block_lt_of_cell? w ⟨_,0,none⟩ h.c0)).trans h.c0,(b.cell (p:=⟨_,0,none⟩) (World.block_lt_of_cell? w ⟨_,0,none⟩ h.c1)).trans h.c1,(b.cell (p:=⟨_,0,none⟩) (World.block_lt_of_cell? w ⟨_,0,none⟩ h.c2)).trans h.c2,(b.cell (p:=⟨_,0,none⟩) (World.block_lt_of_cell? w ⟨_,0,none⟩ h.c3)).trans h.c3,(b.cell (p:=⟨_,0,none⟩) (World.block_lt_of_cell? w ⟨_,0,none⟩ h.c4)).trans h.c4,(b.cell (p:=⟨_,0,none⟩) (World.block_lt_of_cell? w ⟨_,0,none⟩ h.c5)).trans h.c5,
  fun k hk=>by
   obtain ⟨c,t,hr⟩:=h.row k hk
   exact ⟨c,t,(b.block _ (Array.getElem?_eq_some_iff.1 hr).1).trans hr⟩,h.apart⟩
theorem Six.errs {w:World} {x:Nat→Addr} (h:Six w x):zn7.Errs w 213 213 213 (.pointer (some (x 1))) (.pointer (some (x 2))) (.pointer (some (x 3))):=⟨h.c1,h.c2,h.c3⟩
theorem Six.other {w:World} {x:Nat→Addr} (h:Six w x) (i j:Nat) (hi:i<6) (hj:j<6) (hij:i≠j):
  Calls Tryz.prog 33 #[.iface 213 (.pointer (some (x i))), .iface 213 (.pointer (some (x j)))] w fun e w'=>e= .returned (.bool false)∧w'=w:=by
 obtain ⟨c1,t1,h1⟩:=h.row i hi;obtain ⟨c2,t2,h2⟩:=h.row j hj;exact WIs.other (x i) (x j) c1 c2 t1 t2 w (h.apart i j hi hj hij) h1 h2
set_option maxRecDepth 100000 in
set_option maxHeartbeats 400000 in
theorem code0 (x:Nat→Addr) (w:World) (h:Six w x):
  Calls Tryz.prog 19 #[.iface 213 (.pointer (some (x 0)))] w fun e w'=>e= .returned (.int .i64 2)∧w'=w:=by
 have k0:=h.c0;have k2:=h.c2;have k3:=h.c3;have k4:=h.c4;have k5:=h.c5;have H:=hide h;clear h;go_enter Tryz.func19,Tryz.ntmps19
 go_wp2_with fail
 refine (WIs.same (x 0) _).mono ?_;rintro e w1 ⟨rfl,rfl⟩;go_wp2
 go_ret
 exact ⟨rfl,rfl⟩
set_option maxRecDepth 100000 in
set_option maxHeartbeats 400000 in
theorem code1 (x:Nat→Addr) (w:World) (h:Six w x):
  Calls Tryz.prog 19 #[.iface 213 (.pointer (some (x 1)))] w fun e w'=>e= .returned (.int .i64 1)∧w'=w:=by
 have k0:=h.c0;have k2:=h.c2;have k3:=h.c3;have k4:=h.c4;have k5:=h.c5;have H:=hide h;clear h;go_enter Tryz.func19,Tryz.ntmps19
 go_wp2_with fail
 refine ((za H).other 1 0 (by decide) (by decide) (by decide)).mono ?_;rintro e w1 ⟨rfl,rfl⟩;go_wp2_with fail
 refine ((za H).other 1 2 (by decide) (by decide) (by decide)).mono ?_;rintro e w3 ⟨rfl,rfl⟩;go_wp2_with fail
 refine ((za H).other 1 3 (by decide) (by decide) (by decide)).mono ?_;rintro e w4 ⟨rfl,rfl⟩;go_wp2_with fail
 refine ((za H).other 1 4 (by decide) (by decide) (by decide)).mono ?_;rintro e w5 ⟨rfl,rfl⟩;go_wp2_with fail
 refine ((za H).other 1 5 (by decide) (by decide) (by decide)).mono ?_;rintro e w6 ⟨rfl,rfl⟩;go_wp2
 go_ret
 exact ⟨rfl,rfl⟩
end WIs
end
section
open Go.RowKit
namespace Mem
theorem yc1 {P:Program} (w:World) (base:Nat) (t ty e:TypeId) (i:TypeInfo) (z:Value) (size bytes:Nat) (ht:P.underlying t=some (.slice e)) (hi:P.info? e=some i) (hz:i.zero=some z)
  (hsize:i.size=size) (hby:i.bytes=bytes) (hzs:z.cells.size=size) (hsz:0<size)
  (v:Value) (n:Nat) (xs:List Value) (hown:w.ownsRow base e size v n xs)
  (va:Option Addr) (m c:Nat) (news:List Value) (hl:news.length=m*size) (hsrc:(∃a,va=some a∧∀j u,news[j]? =some u→w.cell? (a.add j)=some u)∨(va=none∧m=0)) (h1:∀u∈news,u.oneCell'=true)
  (h63:n+m≤maxLen) (hbytes:(n+m)*bytes≤140737488355328) (hbase:base≤w.heap.size):
  ∃v' w',(Builtin.append_ #[t,t] ty #[v, .slice va m c]).run P w= .ok v' w'∧w'.ownsRow base e size v' (n+m) (xs++news)∧w.grownBy w' v.ownBlock∧∀g,v'.ownBlock=some g→v.ownBlock=some g∨w.heap.size≤g:=by
 rcases hsrc with ⟨a,rfl,hnews⟩|⟨rfl,rfl⟩
 ·exact zt8 w base t ty e i z size bytes ht hi hz hsize hby hzs hsz v n xs hown a m c news hl hnews h1 h63 hbytes hbase
 ·have hn:news=[]:=List.eq_nil_of_length_eq_zero (by rw [hl,Nat.zero_mul]);subst hn
  have hv:∃b cap,v= .slice b n cap∧n≤cap:=by
   rcases hown.2 with ⟨rfl,rfl⟩|⟨g,cap,cur,rfl, -, -,hc, -⟩
   ·exact ⟨none,0,rfl,Nat.le_refl _⟩
   ·exact ⟨_,cap,rfl,hc⟩
  obtain ⟨b,cap,rfl,hc⟩:=hv;refine ⟨_,w,run_append_nothing w t t ty e i ht hi b n cap hc (.slice none 0 c) (Src.ofNil w ht c),?_,zb8 (Below.refl _ _) _,fun g hg=> .inl hg⟩;rw [List.append_nil,Nat.add_zero];exact hown
theorem za1 {P:Program} {ops:Array Oper} {o:Oper} {a:Act} {w:World} {K:Act→World→Prop} {Q:Exit→Act→World→Prop} {E:Prop}
  (hg:o.guard=none) (s x:Operand) (t:TypeId) (hop:o.op=Op.call { callee:=Callee.builtin Builtin.append,args:=#[s,x],argTypes:=#[t,t] })
  (base:Nat) (e:TypeId) (i:TypeInfo) (z:Value) (size bytes:Nat) (h1:P.underlying t=some (.slice e)) (h2:P.info? e=some i) (h3:i.zero=some z) (h4:i.size=size) (h5:i.bytes=bytes) (h6:z.cells.size=size) (h7:0<size)
  (v:Value) (n:Nat) (xs:List Value) (hs:a.eval s=v) (hown:w.ownsRow base e size v n xs)
  (va:Option Addr) (m c:Nat) (news:List Value) (hx:a.eval x= .slice va m c) (hn:news.length=m*size) (hc:(∃a,va=some a∧∀j u,news[j]? =some u→w.cell? (a.add j)=some u)∨(va=none∧m=0)) (h1c:∀u∈news,u.oneCell'=true)
  (b1:n+m≤maxLen) (b2:(n+m)*bytes≤140737488355328) (hbase:base≤w.heap.size)
  (hK:∀v' w',w'.ownsRow base e size v' (n+m) (xs++news)→w.grownBy w' v.ownBlock→(∀g,v'.ownBlock=some g→v.ownBlock=some g∨w.heap.size≤g)→K (a.put o.dst v') w'):
  if Region.wanted o (yielded ops a.tmps)=true then Oper.wp P o a w K Q else E:=by
 have hw:Region.wanted o (yielded ops a.tmps)=true:=by simp [Region.wanted,hg]
 rw [if_pos hw];obtain ⟨v',w',hrun,r1,r2,r3⟩:=yc1 (P:=P) w base t o.type e i z size bytes h1 h2 h3 h4 h5 h6 h7 v n xs hown va m c news hn hc h1c b1 b2 hbase;unfold Oper.wp;simp [execOp,hop,resolve,invoke,builtin,hs,hx,hrun,Result.andThen]
 exact hK v' w' r1 r2 r3
end Mem
end
end Go.Proofs.YtggadpalljhiaaaGreatDoor
