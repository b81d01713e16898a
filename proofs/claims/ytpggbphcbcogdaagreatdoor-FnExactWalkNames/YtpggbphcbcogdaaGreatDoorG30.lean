/- Several texts of one claim in one file: WWnC, WWnD, WNodesI, WNodeAt, WLevelUp. -/
import Derived.Test.YtpggbphcbcogdaaGreatDoorG28
import Derived.Test.YtpggbphcbcogdaaGreatDoorLayStr
import Derived.Sort.OwnSorted
import Derived.Lib.RowBridge
namespace Go.Proofs.YtpggbphcbcogdaaGreatDoor
section
set_option linter.unusedSimpArgs false
open Go.RowKit Go.Shelf Go.Maps Go.Sort
namespace Rng
def bl (ys:List ByteArray):List (List UInt8):=ys.map (fun t=>t.data.toList)
theorem bl_enc (ys:List ByteArray):(bl ys).map encStr=ys.map Value.string:=by
 rw [bl,List.map_map];refine List.map_congr_left (fun t _=>?_);show Value.string ⟨t.data.toList.toArray⟩=_;rw [Array.toArray_toList]
set_option maxRecDepth 100000 in
set_option maxHeartbeats 4000000 in
theorem collect_names (w0:World) (L:List Pl.Nd) (K:Pl.Fx) (qm:Nat) (a:Option Addr) (cap:Nat) (q:ByteArray) (nb pb:Nat) (w:World) (h0:w0.heap.size≤w.heap.size)
  (hx:(Pl.Fx.cons L K .nil).okX) (hm:Mem.ownM w0 qm L) (hl:Mem.layX w0 (fun j=>j<w0.heap.size) K (.slice a K.len cap)) (hk:Keep w0 w) (hnb:Mem.Blk w nb #[.map (some qm), .int .i64 (K.len:Int), .slice a K.len cap] 62) (hpb:Mem.Blk w pb #[.string q] 9) (h12:(Pl.za7 (.cons L K .nil)).length≤12):
  Calls Tryz.prog 73 #[.func (.func 57) #[] #[.pointer (some ⟨nb,0,none⟩), .pointer (some ⟨pb,0,none⟩)]] w fun e w'=>∃v ys,e= .returned v∧(∀t,t∈ys↔∃M∈Pl.za7 (.cons L K .nil),t∈Pl.za6 q M)∧ys.length≤480∧zf0.Own w' w.heap.size v ys∧Below w.heap.size w w':=by
 have HA:=hide (append_names w0 L K qm a cap q nb pb w h0 hx hm hl hk hnb hpb h12);clear hx hm hl hk hnb hpb h12;go_enter Tryz.func73,Tryz.ntmps73
 go_wp2_with (go_at_call 88;refine (za HA).mono ?_;rintro e w1 ⟨v,ys,rfl,r1,r2,r3,r4⟩)
 go_ret
 exact ⟨v,ys,rfl,r1,r2,r3,r4⟩
set_option maxRecDepth 100000 in
set_option maxHeartbeats 4000000 in
theorem sorted_names (w0:World) (L:List Pl.Nd) (K:Pl.Fx) (qm:Nat) (a:Option Addr) (cap:Nat) (q:ByteArray) (nb pb:Nat) (w:World) (h0:w0.heap.size≤w.heap.size)
  (hx:(Pl.Fx.cons L K .nil).okX) (hm:Mem.ownM w0 qm L) (hl:Mem.layX w0 (fun j=>j<w0.heap.size) K (.slice a K.len cap)) (hk:Keep w0 w) (hnb:Mem.Blk w nb #[.map (some qm), .int .i64 (K.len:Int), .slice a K.len cap] 62) (hpb:Mem.Blk w pb #[.string q] 9) (h12:(Pl.za7 (.cons L K .nil)).length≤12):
  Calls Tryz.prog 56 #[.func (.func 57) #[] #[.pointer (some ⟨nb,0,none⟩), .pointer (some ⟨pb,0,none⟩)]] w fun e w'=>∃v ys,e= .returned v∧(∀t,t∈ys↔∃M∈Pl.za7 (.cons L K .nil),t∈Pl.za6 q M)∧ys.length≤480∧w'.ownsRow w.heap.size 9 1 v ys.length (((bl ys).mergeSort fun x y=>decide (x≤y)).map encStr)∧Below w.heap.size w w':=by
 have HA:=hide (collect_names w0 L K qm a cap q nb pb w h0 hx hm hl hk hnb hpb h12);clear hx hm hl hk hnb hpb h12;go_enter Tryz.func56,Tryz.ntmps56
 go_wp2_with (go_at_call 73;refine (za HA).mono ?_;rintro e w1 ⟨v,ys,rfl,r1,r2,r3,r4⟩)
 have hlen:(bl ys).length=ys.length:=by rw [bl,List.length_map]
 rcases r3.2 with ⟨rfl,hz⟩|⟨g,cp,cur,rfl,hbase,hgb,q1,q2,q3,q4⟩
 ·obtain rfl:ys=[]:=List.eq_nil_of_length_eq_zero hz;go_wp2_with (go_at_call 74;refine (AnyM.slices_Sort_string_none LayStr.sortL none 0 w1).mono ?_;rintro e w2 ⟨rfl,rfl⟩)
  go_ret
  exact ⟨_,[],rfl,r1,r2,⟨by simp [bl], .inl ⟨rfl,rfl⟩⟩,r4⟩
 ·have hH:Holds encStr w1 g 0 (bl ys).toArray:=holds_of_block hgb (by rw [bl_enc,hlen];simpa using q4);have hgl:g<w1.heap.size:=(Array.getElem?_eq_some_iff.1 hgb).1;have cS:=AnyM.slices_Sort_string LayStr.sortL g 0 cp (bl ys) w1 hH hgl (by omega);rw [hlen] at cS;have CS:=hide cS;clear cS hH;go_wp2_with (go_at_call 74;refine (za CS).mono ?_;rintro e w2 ⟨rfl,nn,os,rfl⟩)
  go_ret
  refine ⟨_,ys,rfl,r1,r2,?_,r4.grown (grownBy_sorted _) r4.size (fun j hj=>by cases hj;exact hbase)⟩;have h5:=ownsRow_sorted (w:=w1) (n:=nn) (os:=os) (ss:=bl ys) (ts:=(bl ys).mergeSort fun x y=>decide (x≤y)) (List.length_mergeSort _) hbase hgb (by omega) q2 q3;rw [hlen] at h5;exact h5
end Rng
end
section
open Go.RowKit Go.Shelf Go.Maps Go.Sort
namespace Rng
theorem grow_none (W:World):grow W #[]=W:=by cases W;simp [grow]
theorem owns_compact {w:World} {base g cap n:Nat} {e:TypeId} {cur:Array Value} {m:Nat} (ts pad:List (List UInt8)) (hl:(ts++pad).length=m) (hbase:base≤g) (hb:w.heap[g]? =some (.cells cur e (0,0))) (h1:m≤cap) (h2:cap≤maxLen) (h3:cur.size=cap*1):
  (putRow encStr (Sort.ahead w n) g 0 (ts++pad).toArray).ownsRow base e 1 (.slice (some ⟨g,0,none⟩) ts.length cap) ts.length (ts.map encStr):=by
 have h5:=heap_sorted (n:=n) (os:=#[]) (ts++pad).toArray hb;rw [grow_none] at h5;have h6:=take_putCells cur (ts++pad) (by omega);rw [List.length_append] at hl;refine ⟨by simp, .inr ⟨g,cap,_,rfl,hbase,h5,by omega,h2,by simp [putCells,h3],?_⟩⟩;rw [Nat.mul_one];have h7:=congrArg (List.take ts.length) h6;rw [List.take_take,List.length_append,Nat.min_eq_left (by omega),List.map_append,List.take_left' (by simp)] at h7;exact h7
set_option linter.unusedSimpArgs false in
set_option maxRecDepth 100000 in
set_option maxHeartbeats 4000000 in
theorem order_names (w0:World) (L:List Pl.Nd) (K:Pl.Fx) (qm:Nat) (a:Option Addr) (cap:Nat) (q:ByteArray) (nb pb:Nat) (w:World) (h0:w0.heap.size≤w.heap.size)
  (hx:(Pl.Fx.cons L K .nil).okX) (hm:Mem.ownM w0 qm L) (hl:Mem.layX w0 (fun j=>j<w0.heap.size) K (.slice a K.len cap)) (hk:Keep w0 w) (hnb:Mem.Blk w nb #[.map (some qm), .int .i64 (K.len:Int), .slice a K.len cap] 62) (hpb:Mem.Blk w pb #[.string q] 9) (h12:(Pl.za7 (.cons L K .nil)).length≤12):
  Calls Tryz.prog 39 #[.func (.func 57) #[] #[.pointer (some ⟨nb,0,none⟩), .pointer (some ⟨pb,0,none⟩)]] w fun e w'=>∃v ys,e= .returned v∧(∀t,t∈ys↔∃M∈Pl.za7 (.cons L K .nil),t∈Pl.za6 q M)∧ys.length≤480∧Pl.Rise ys∧zf0.Own w' w.heap.size v ys∧Below w.heap.size w w':=by
 have HA:=hide (sorted_names w0 L K qm a cap q nb pb w h0 hx hm hl hk hnb hpb h12);clear hx hm hl hk hnb hpb h12;go_enter Tryz.func39,Tryz.ntmps39
 go_wp2_with (go_at_call 56;refine (za HA).mono ?_;rintro e w1 ⟨v,ys,rfl,r1,r2,r3,r4⟩)
 have hlen:((bl ys).mergeSort fun x y=>decide (x≤y)).length=ys.length:=by rw [List.length_mergeSort,bl,List.length_map]
 obtain ⟨o1,o2⟩:=Pl.out_ok ys
 have o3:(Lib.compact ((bl ys).mergeSort fun x y=>decide (x≤y))).length≤ys.length:=by
  have :=Lib.compact_length_le ((bl ys).mergeSort fun x y=>decide (x≤y));omega
 have o4:(Pl.outL ys).length=(Lib.compact ((bl ys).mergeSort fun x y=>decide (x≤y))).length:=by rw [Pl.outL,List.length_map];rfl
 have o5:(Pl.outL ys).map Value.string=(Lib.compact ((bl ys).mergeSort fun x y=>decide (x≤y))).map encStr:=by rw [Pl.outL,List.map_map];rfl
 have o6:∀t,t∈Pl.outL ys↔∃M∈Pl.za7 (.cons L K .nil),t∈Pl.za6 q M:=fun t=>(o2 t).trans (r1 t)
 rcases r3.2 with ⟨rfl,hz⟩|⟨g,cp,cur,rfl,hbase,hgb,q1,q2,q3,q4⟩
 ·go_wp2_with (go_at_call 55;refine (AnyG.slices_Compact_string_empty LayStr.compactL none 0 w1).mono ?_;rintro e w2 ⟨rfl,rfl⟩)
  go_ret
  have e:(Pl.outL ys)=[]:=List.eq_nil_of_length_eq_zero (by omega);exact ⟨_,Pl.outL ys,rfl,o6,by omega,o1,by rw [e];exact ⟨rfl, .inl ⟨rfl,rfl⟩⟩,r4⟩
 ·generalize hzs:(bl ys).mergeSort (fun x y=>decide (x≤y))=zs at hlen o3 o4 o5 q4;have hH:Holds encStr w1 g 0 zs.toArray:=holds_of_block hgb (by rw [hlen];simpa using q4);have cS:=AnyG.slices_Compact_string LayStr.compactL g 0 cp zs w1 hH (by omega) (by omega);rw [hlen] at cS;have CS:=hide cS;clear cS hH;go_wp2_with (go_at_call 55;refine (za CS).mono ?_;rintro e w2 ⟨rfl,nn,rfl⟩)
  go_ret
  have gr:=grownBy_sorted (w:=w1) (g:=g) (n:=nn) (os:=#[]) (Lib.compact zs++List.replicate (ys.length - (Lib.compact zs).length) []).toArray;rw [grow_none] at gr;refine ⟨_,Pl.outL ys,rfl,o6,by omega,o1,?_,r4.grown gr r4.size (fun j hj=>by cases hj;exact hbase)⟩;unfold zf0.Own;rw [o4,o5];exact owns_compact (w:=w1) (n:=nn) (m:=ys.length) (Lib.compact zs) (List.replicate (ys.length - (Lib.compact zs).length) []) (by rw [List.length_append,List.length_replicate];omega) hbase hgb q1 q2 q3
end Rng
end
section
open Go.RowKit Go.Maps
namespace Pl
def parV (e2 e3:Value) (C:List Nd) (p:ByteArray):Value:=
 if (zb6 p).size=0 then .nilIface else match C.find? (fun m=>decide (m.path=zb6 p)) with |none=>e2|some m=>if m.kind=1 then .nilIface else e3
theorem par_ok {C:List Nd} {p:ByteArray} {u2 u3:TypeId} {x2 x3:Value} (hC:C.Pairwise (fun a b=>a.path≠b.path)):
  (parI C p=true∧parV (.iface u2 x2) (.iface u3 x3) C p= .nilIface)∨(parI C p=false∧∃u x,parV (.iface u2 x2) (.iface u3 x3) C p= .iface u x):=by
 unfold parV parI;by_cases h0:(zb6 p).size=0
 ·left;simp [h0]
 simp only [h0,decide_false,Bool.false_or,if_false];cases hf:C.find? (fun m=>decide (m.path=zb6 p)) with
 |none=>
  right
  refine ⟨?_,u2,x2,rfl⟩;rw [List.any_eq_false];intro m hm;have :=List.find?_eq_none.1 hf m hm;simp at this
  simp [this]
 |some m=>
  have h1:=List.mem_of_find?_eq_some hf;have h2:m.path=zb6 p:=by simpa using List.find?_some hf
  by_cases hk:m.kind=1
  ·left
   refine ⟨?_,by simp [hk]⟩;rw [List.any_eq_true];exact ⟨m,h1,by simp [h2,hk]⟩
  ·right
   refine ⟨?_,u3,x3,by simp [hk]⟩;rw [List.any_eq_false];intro x hx;simp only [Bool.and_eq_true,decide_eq_true_eq,not_and];intro hxp
   have :x=m:=by
    have hp:∀ {A:List Nd},A.Pairwise (fun a b=>a.path≠b.path)→∀ {a b:Nd},a∈A→b∈A→a.path=b.path→a=b:=by
     intro A hA
     induction hA with
     |nil=>intro a b ha;cases ha
     |cons hx' _ ih=>
      intro a b ha hb e
      rcases List.mem_cons.1 ha with e1|h1
      ·rcases List.mem_cons.1 hb with e2|h2
       ·rw [e1,e2]
       ·exact absurd (e1 ▸ e) (hx' _ h2)
      ·rcases List.mem_cons.1 hb with e2|h2
       ·exact absurd (e2 ▸ e).symm (hx' _ h1)
       ·exact ih h1 h2 e
    exact hp hC hx h1 (hxp.trans h2.symm)
   rw [this];exact hk
end Pl
namespace MapN
section
variable {P:Program} (w:World) {ops:Array Oper} {rest:List Oper} {o:Oper} {a:Act} {Q:Exit→Act→World→Prop}
theorem look_ok (hg:o.guard=none) (m x:Operand) (t:TypeId) (hop:o.op=Op.lookup t m x true)
  (k e:TypeId) (K:Keyed P k) (ht:P.underlying t=some (.map k e)) (hz:(zeroValue e).run P w= .ok (Pl.Nd.val ⟨⟨#[]⟩,0,⟨#[]⟩,0,0⟩) w) (b n:Nat) (D:DataW Unit)
  (hm:a.eval m= .map (some b)) (hown:w.ownsMap P k elem b n D) (kv:Value) (kl:Lit) (hx:a.eval x=kv) (hkey:keyOf P k kv=some kl) (nd:Pl.Nd) (hat:D.atKey kl (dat ⟨⟨#[]⟩,0,⟨#[]⟩,0,0⟩)=dat nd) (r:Bool) (hr:Maps.has D kl=r)
  (hK:wpList P ops Q rest (a.put o.dst (.tuple #[.agg #[.string nd.path, .int .i64 nd.kind, .string nd.data, .int .i64 nd.time, .int .i64 nd.mark], .bool r])) w):
  wpList P ops Q (o::rest) a w:=
 wpList_lookup_own_ok w hg m x t hop k e K ht elem hz _ [] (elem_mk _) b n D hm hown kv kl hx hkey (fun v ps hv=>by
  obtain ⟨n1,rfl,hd⟩:=elem_inv hv;obtain rfl:=dat_inj (hat.symm.trans hd);rw [hr]
  exact hK)
end
end MapN
namespace zk2
structure Errs (w:World) (u1 u2 u3:TypeId) (x1 x2 x3:Value):Prop where
 c1:w.cell? ⟨1,0,none⟩=some (.iface u1 x1)
 c2:w.cell? ⟨2,0,none⟩=some (.iface u2 x2)
 c3:w.cell? ⟨3,0,none⟩=some (.iface u3 x3)
theorem Errs.call {w w':World} {u1 u2 u3:TypeId} {x1 x2 x3:Value} (h:Errs w u1 u2 u3 x1 x2 x3) (b:Below w.heap.size w w'):Errs w' u1 u2 u3 x1 x2 x3:=
 ⟨(b.cell (p:=⟨_,0,none⟩) (World.block_lt_of_cell? w ⟨_,0,none⟩ h.c1)).trans h.c1,(b.cell (p:=⟨_,0,none⟩) (World.block_lt_of_cell? w ⟨_,0,none⟩ h.c2)).trans h.c2,(b.cell (p:=⟨_,0,none⟩) (World.block_lt_of_cell? w ⟨_,0,none⟩ h.c3)).trans h.c3⟩
theorem zk8 {w w':World} {B n:Nat} {D:DataW Unit} (h:w.ownsMap Tryz.prog 9 MapN.elem B n D) (b:Below w.heap.size w w'):w'.ownsMap Tryz.prog 9 MapN.elem B n D:=
 h.kept (row:=none) ⟨b.os,b.tape,b.output,b.size,fun k hk _=>b.block k hk⟩ (by simp)
set_option maxRecDepth 100000 in
set_option maxHeartbeats 400000 in
theorem fault_any (B N:Nat) (C:List Pl.Nd) (p:ByteArray) (w:World) (u1 u2 u3:TypeId) (x1 x2 x3:Value) (hE:Errs w u1 u2 u3 x1 x2 x3) (hown:w.ownsMap Tryz.prog 9 MapN.elem B N (MapN.mapOf C)) (hC:C.Pairwise (fun a b=>a.path≠b.path)) (hp:p.size≤1048576):
  Calls Tryz.prog 87 #[.map (some B), .string p] w fun e w'=>e= .returned (Pl.parV (.iface u2 x2) (.iface u3 x3) C p)∧Below w.heap.size w w':=by
 have hpa:=hide (zh3.zl2 p w hp)
 have hz:=hide (show (Pl.zb6 p).size≤1048576 from by
  have h1:=Pl.ze2 p;have h2:=Pl.zp8 (Pl.zb0 p).dropLast (fun t ht=>(Pl.zj4 (h1.1 t (List.dropLast_subset _ ht))).2.2.2);rw [List.length_dropLast] at h2;show (Pl.glue (Pl.zb0 p).dropLast).size≤1048576
  omega)
 change Hid (Calls Tryz.prog _ _ w fun e w'=>e= .returned (.string (Pl.zb6 p))∧_) at hpa
 have E1:Hid ((Pl.zb6 p).size=0→Pl.parV (.iface u2 x2) (.iface u3 x3) C p= .nilIface):=fun h=>by simp [Pl.parV,h]
 have E2:Hid ((Pl.zb6 p).size≠0→C.find? (fun m=>decide (m.path=Pl.zb6 p))=none→Pl.parV (.iface u2 x2) (.iface u3 x3) C p= .iface u2 x2):=fun h hf=>by simp [Pl.parV,h,hf]
 have E3:Hid ((Pl.zb6 p).size≠0→∀m,C.find? (fun m=>decide (m.path=Pl.zb6 p))=some m→Pl.parV (.iface u2 x2) (.iface u3 x3) C p=if m.kind=1 then .nilIface else .iface u3 x3):=fun h m hf=>by simp [Pl.parV,h,hf]
 generalize Pl.parV (.iface u2 x2) (.iface u3 x3) C p=R at E1 E2 E3 ⊢;generalize Pl.zb6 p=q at hpa hz E1 E2 E3;have HE:=hide hE;have HM:=hide hown;clear hE hown;go_enter Tryz.func87,Tryz.ntmps87
 go_wp2_with fail
 refine (za hpa).mono ?_;rintro e w1 ⟨rfl,b1⟩;have hE1:=(za HE).call b1;have hM1:=hide (zk8 (za HM) b1);have k2:∀o,(w1.alloc o).cell? ⟨2,0,none⟩=some (.iface u2 x2):=fun o=>(World.cell?_alloc_some _ _ _ (by rw [hE1.c2];rfl)).trans hE1.c2;have k3:∀o,(w1.alloc o).cell? ⟨3,0,none⟩=some (.iface u3 x3):=fun o=>(World.cell?_alloc_some _ _ _ (by rw [hE1.c3];rfl)).trans hE1.c3;clear HE HM hpa hE1;by_cases h0:q.size=0
 ·have t0:q.toList.isEmpty=true:=by rw [Pl.zd7];simpa [Pl.zf7] using h0
  have E:=hide (za E1 h0);go_wp2
  go_ret
  exact ⟨by rw [za E];rfl,b1⟩
 have t0:q.toList.isEmpty=false:=by rw [Pl.zd7];simpa [Pl.zf7] using h0
 have hkey:=MapN.keyOf_mk (p:=q) (by have :=za hz;unfold maxLen;omega);cases hf:C.find? (fun m=>decide (m.path=q)) with
 |none=>
  have E:=hide (za E2 h0 hf);have hmiss:∀n∈C,n.path≠q:=fun n hn=>by simpa using List.find?_eq_none.1 hf n hn
  have ha:=hide (MapN.has_no hmiss);have ha2:=hide (Maps.atKey_of_not_has (za ha) (MapN.dat ⟨⟨#[]⟩,0,⟨#[]⟩,0,0⟩));clear E1 E2 E3 hf hmiss;go_wp2_with (at_lookup;refine MapN.look_ok _ rfl _ _ 57 rfl 9 42 MapN.law Tryz.underlying57 (MapN.za3 _) B N (MapN.mapOf C) rfl (za hM1) _ _ rfl hkey ⟨⟨#[]⟩,0,⟨#[]⟩,0,0⟩ (za ha2) false (za ha) ?_)
  go_ret
  exact ⟨by rw [za E];rfl,b1.alloc b1.size _⟩
 |some m=>
  have E:=hide (za E3 h0 m hf);have hm1:=List.mem_of_find?_eq_some hf;have hm2:m.path=q:=by simpa using List.find?_some hf
  obtain ⟨y1,y2⟩:=MapN.at_yes hC hm1;rw [hm2] at y1 y2;have ha:=hide y1;have ha2:=hide (y2 (MapN.dat ⟨⟨#[]⟩,0,⟨#[]⟩,0,0⟩));clear E1 E2 E3 hf y1 y2 hm1 hm2;by_cases hk:m.kind=1
  ·have E':=hide (show R= .nilIface by rw [za E,if_pos hk]);have t1:(m.kind==1)=true:=by simpa using hk
   clear E hk;go_wp2_with (at_lookup;refine MapN.look_ok _ rfl _ _ 57 rfl 9 42 MapN.law Tryz.underlying57 (MapN.za3 _) B N (MapN.mapOf C) rfl (za hM1) _ _ rfl hkey m (za ha2) true (za ha) ?_)
   go_ret
   exact ⟨by rw [za E'];rfl,b1.alloc b1.size _⟩
  ·have E':=hide (show R= .iface u3 x3 by rw [za E,if_neg hk]);have t1:(m.kind==1)=false:=by simpa using hk
   clear E hk;go_wp2_with (at_lookup;refine MapN.look_ok _ rfl _ _ 57 rfl 9 42 MapN.law Tryz.underlying57 (MapN.za3 _) B N (MapN.mapOf C) rfl (za hM1) _ _ rfl hkey m (za ha2) true (za ha) ?_)
   go_ret
   exact ⟨by rw [za E'];rfl,b1.alloc b1.size _⟩
end zk2
end
section
open Go.RowKit Go.Maps
namespace zf5
set_option linter.unusedSimpArgs false in
set_option maxRecDepth 100000 in
set_option maxHeartbeats 2000000 in
theorem at_some (B N:Nat) (D:DataW Unit) (p:ByteArray) (m:Pl.Nd) (w:World) (hp:p.size≤1048576) (hown:w.ownsMap Tryz.prog 9 MapN.elem B N D) (h1:D.atKey (MapN.key p) (MapN.dat ⟨⟨#[]⟩,0,⟨#[]⟩,0,0⟩)=MapN.dat m) (t:Bool) (h2:Maps.has D (MapN.key p)=t):
  Calls Tryz.prog 132 #[.map (some B), .string p] w fun e w'=>e= .returned (.tuple #[m.val, .bool t])∧Below w.heap.size w w':=by
 have hkey:=MapN.keyOf_mk (p:=p) (by unfold maxLen;omega);have HM:=hide (zk2.zk8 hown ((Below.refl _ _).alloc (Nat.le_refl _) (.cells #[.string ⟨#[]⟩, .int .i64 0, .string ⟨#[]⟩, .int .i64 0, .int .i64 0] 42)));have ha:=hide h1;have ha2:=hide h2;clear h1 h2 hown;obtain ⟨mp,mk,md,mt,mm⟩:=m;go_enter Tryz.func132,Tryz.ntmps132
 go_wp2_with (at_lookup;refine MapN.look_ok _ rfl _ _ 57 rfl 9 42 MapN.law Tryz.underlying57 (MapN.za3 _) B N D rfl (za HM) _ _ rfl hkey ⟨mp,mk,md,mt,mm⟩ (za ha) t (za ha2) ?_)
 refine bodyPost_ret (v:= .tuple #[.agg #[.string mp, .int .i64 mk, .string md, .int .i64 mt, .int .i64 mm], .bool t]) (by simp [results,Tryz.results132,go_sem]) rfl ⟨rfl,?_⟩
 repeat first |exact Below.refl _ _|refine Below.setCell ?_ (by simp) _|refine Below.alloc ?_ (by simp) _
end zf5
end
section
open Go.RowKit Go.Maps
namespace zf5
set_option linter.unusedSimpArgs false in
set_option maxRecDepth 100000 in
set_option maxHeartbeats 2000000 in
theorem up_any (s:Pl.Sg) (w:World) (hh:s.have'.length=4) (hm:0≤s.node.mark∧s.node.mark≤1000):
  Calls Tryz.prog 93 #[.agg s.cs.toArray] w fun e w'=>e= .returned (.agg (Pl.upS s).cs.toArray)∧Below w.heap.size w w':=by
 obtain ⟨told,⟨sp,sk,sd,st,sm⟩,hv⟩:=s
 obtain ⟨h0,h1,h2,h3,rfl⟩:∃h0 h1 h2 h3,hv=[h0,h1,h2,h3]:=by
  match hv,hh with
  | [a,b,c,d],_=>exact ⟨a,b,c,d,rfl⟩
 simp only at hm;have hw:IntKind.i64.wrap (sm - 1)=sm - 1:=by simp only [IntKind.wrap_i64];omega
 generalize hU:Pl.upS ⟨told,⟨sp,sk,sd,st,sm⟩,[h0,h1,h2,h3]⟩=U;simp only [Pl.upS] at hU;rw [show (Pl.Sg.cs ⟨told,⟨sp,sk,sd,st,sm⟩,[h0,h1,h2,h3]⟩).toArray=#[.bool told, .string sp, .int .i64 sk, .string sd, .int .i64 st, .int .i64 sm, .bool h0, .bool h1, .bool h2, .bool h3] from rfl];by_cases h5:sm - 1<0
 ·have hM:max (sm - 1) 0=0:=by omega
  rw [hM] at hU;by_cases hk:sk=0
  ·subst hk;rw [if_pos ⟨rfl,rfl⟩] at hU;have EU:=hide hU.symm;clear hU;go_enter Tryz.func93,Tryz.ntmps93
   go_wp2
   refine bodyPost_ret (v:= .agg #[.bool false, .string ⟨#[]⟩, .int .i64 0, .string ⟨#[]⟩, .int .i64 0, .int .i64 0, .bool false, .bool false, .bool false, .bool false]) (by simp [results,Tryz.results93,go_sem]) rfl ⟨by rw [za EU];rfl,?_⟩
   repeat first |exact Below.refl _ _|refine Below.setCell ?_ (by simp) _|refine Below.alloc ?_ (by simp) _
  ·have t1:(sk==0)=false:=by simpa using hk
   rw [if_neg (fun h=>hk h.1)] at hU;have EU:=hide hU.symm;clear hU;go_enter Tryz.func93,Tryz.ntmps93
   go_wp2
   refine bodyPost_ret (v:= .agg #[.bool told, .string sp, .int .i64 sk, .string sd, .int .i64 st, .int .i64 (0), .bool h0, .bool h1, .bool h2, .bool h3]) (by simp [results,Tryz.results93,go_sem]) rfl ⟨by rw [za EU];rfl,?_⟩
   repeat first |exact Below.refl _ _|refine Below.setCell ?_ (by simp) _|refine Below.alloc ?_ (by simp) _
 ·have hM:max (sm - 1) 0=sm - 1:=by omega
  rw [hM] at hU;by_cases hk:sk=0
  ·subst hk;by_cases h6:sm=1
   ·subst h6;rw [if_pos ⟨rfl,by omega⟩] at hU;have EU:=hide hU.symm;clear hU;go_enter Tryz.func93,Tryz.ntmps93
    go_wp2
    refine bodyPost_ret (v:= .agg #[.bool false, .string ⟨#[]⟩, .int .i64 0, .string ⟨#[]⟩, .int .i64 0, .int .i64 0, .bool false, .bool false, .bool false, .bool false]) (by simp [results,Tryz.results93,go_sem]) rfl ⟨by rw [za EU];rfl,?_⟩
    repeat first |exact Below.refl _ _|refine Below.setCell ?_ (by simp) _|refine Below.alloc ?_ (by simp) _
   ·have t2:(sm - 1==0)=false:=by simp;omega
    rw [if_neg (fun h=>by omega)] at hU;have EU:=hide hU.symm;clear hU;go_enter Tryz.func93,Tryz.ntmps93
    go_wp2
    refine bodyPost_ret (v:= .agg #[.bool told, .string sp, .int .i64 0, .string sd, .int .i64 st, .int .i64 (sm - 1), .bool h0, .bool h1, .bool h2, .bool h3]) (by simp [results,Tryz.results93,go_sem]) rfl ⟨by rw [za EU];rfl,?_⟩
    repeat first |exact Below.refl _ _|refine Below.setCell ?_ (by simp) _|refine Below.alloc ?_ (by simp) _
  ·have t1:(sk==0)=false:=by simpa using hk
   rw [if_neg (fun h=>hk h.1)] at hU;have EU:=hide hU.symm;clear hU;go_enter Tryz.func93,Tryz.ntmps93
   go_wp2
   refine bodyPost_ret (v:= .agg #[.bool told, .string sp, .int .i64 sk, .string sd, .int .i64 st, .int .i64 (sm - 1), .bool h0, .bool h1, .bool h2, .bool h3]) (by simp [results,Tryz.results93,go_sem]) rfl ⟨by rw [za EU];rfl,?_⟩
   repeat first |exact Below.refl _ _|refine Below.setCell ?_ (by simp) _|refine Below.alloc ?_ (by simp) _
end zf5
end
end Go.Proofs.YtpggbphcbcogdaaGreatDoor
