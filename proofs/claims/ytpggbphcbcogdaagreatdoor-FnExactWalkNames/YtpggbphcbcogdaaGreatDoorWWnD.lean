import Derived.Test.YtpggbphcbcogdaaGreatDoorPlainComp
import Derived.Test.YtpggbphcbcogdaaGreatDoorWWnC
import Derived.Lib.RowBridge
namespace Go.Proofs.YtpggbphcbcogdaaGreatDoor
open Go.RowKit Go.Shelf Go.Maps Go.Sort
namespace Rng
theorem grow_none (W:World):grow W #[]=W:=by cases W;simp [grow]
theorem owns_compact {w:World} {base g cap n:Nat} {e:TypeId} {cur:Array Value} {m:Nat} (ts pad:List (List UInt8)) (hl:(ts++pad).length=m) (hbase:base≤g) (hb:w.heap[g]? =some (.cells cur e (0,0))) (h1:m≤cap) (h2:cap≤maxLen) (h3:cur.size=cap*1):
  (putRow encStr (Sort.ahead w n) g 0 (ts++pad).toArray).ownsRow base e 1 (.slice (some ⟨g,0,none⟩) ts.length cap) ts.length (ts.map encStr):=by
 have h5:=heap_sorted (n:=n) (os:=#[]) (ts++pad).toArray hb;rw [grow_none] at h5;have h6:=take_putCells cur (ts++pad) (by omega);rw [List.length_append] at hl;refine ⟨by simp, .inr ⟨g,cap,_,rfl,hbase,h5,by omega,h2,by simp [putCells,h3],?_⟩⟩;rw [Nat.mul_one];have h7:=congrArg (List.take ts.length) h6;rw [List.take_take,List.length_append,Nat.min_eq_left (by omega),List.map_append,List.take_left' (by simp)] at h7;exact h7
set_option linter.unusedSimpArgs false in
set_option maxRecDepth 100000 in
set_option maxHeartbeats 4000000 in
theorem order_names (w0:World) (L:List Pl.Nd) (K:Pl.Fx) (qm:Nat) (a:Option Addr) (cap:Nat) (q:ByteArray) (nb pb:Nat) (w:World) (h0:w0.heap.size≤w.heap.size)
  (hx:(Pl.Fx.cons L K .nil).okX) (hm:Mem.ownM w0 qm L) (hl:Mem.layX w0 (fun j=>j<w0.heap.size) K (.slice a K.len cap)) (hk:Keep w0 w) (hnb:Mem.Blk w nb #[.map (some qm), .int .i64 (K.len:Int), .slice a K.len cap] 62) (hpb:Mem.Blk w pb #[.string q] 9) (h12:(Pl.za7 (.cons L K .nil)).length≤12):
  Calls Tryz.prog 39 #[.func (.func 57) #[] #[.pointer (some ⟨nb,0,none⟩), .pointer (some ⟨pb,0,none⟩)]] w fun e w'=>∃v ys,e= .returned v∧(∀t,t∈ys↔∃M∈Pl.za7 (.cons L K .nil),t∈Pl.za6 q M)∧ys.length≤480∧Pl.Rise ys∧zf0.Own w' w.heap.size v ys∧Below w.heap.size w w':=by
 have HA:=hide (sorted_names w0 L K qm a cap q nb pb w h0 hx hm hl hk hnb hpb h12);clear hx hm hl hk hnb hpb h12;go_enter Tryz.func39,Tryz.ntmps39
 go_wp2_with (go_at_call 56;refine (za HA).mono ?_;rintro e w1 ⟨v,ys,rfl,r1,r2,r3,r4⟩)
 have hlen:((bl ys).mergeSort fun x y=>decide (x≤y)).length=ys.length:=by rw [List.length_mergeSort,bl,List.length_map]
 obtain ⟨o1,o2⟩:=Pl.out_ok ys
 have o3:(Lib.compact ((bl ys).mergeSort fun x y=>decide (x≤y))).length≤ys.length:=by
  have :=Lib.compact_length_le ((bl ys).mergeSort fun x y=>decide (x≤y));omega
 have o4:(Pl.outL ys).length=(Lib.compact ((bl ys).mergeSort fun x y=>decide (x≤y))).length:=by rw [Pl.outL,List.length_map];rfl
 have o5:(Pl.outL ys).map Value.string=(Lib.compact ((bl ys).mergeSort fun x y=>decide (x≤y))).map encStr:=by rw [Pl.outL,List.map_map];rfl
 have o6:∀t,t∈Pl.outL ys↔∃M∈Pl.za7 (.cons L K .nil),t∈Pl.za6 q M:=fun t=>(o2 t).trans (r1 t)
 rcases r3.2 with ⟨rfl,hz⟩|⟨g,cp,cur,rfl,hbase,hgb,q1,q2,q3,q4⟩
 ·go_wp2_with (go_at_call 55;refine (AnyG.slices_Compact_string_empty LayStr.compactL none 0 w1).mono ?_;rintro e w2 ⟨rfl,rfl⟩)
  go_ret
  have e:(Pl.outL ys)=[]:=List.eq_nil_of_length_eq_zero (by omega);exact ⟨_,Pl.outL ys,rfl,o6,by omega,o1,by rw [e];exact ⟨rfl, .inl ⟨rfl,rfl⟩⟩,r4⟩
 ·generalize hzs:(bl ys).mergeSort (fun x y=>decide (x≤y))=zs at hlen o3 o4 o5 q4;have hH:Holds encStr w1 g 0 zs.toArray:=holds_of_block hgb (by rw [hlen];simpa using q4);have cS:=AnyG.slices_Compact_string LayStr.compactL g 0 cp zs w1 hH (by omega) (by omega);rw [hlen] at cS;have CS:=hide cS;clear cS hH;go_wp2_with (go_at_call 55;refine (za CS).mono ?_;rintro e w2 ⟨rfl,nn,rfl⟩)
  go_ret
  have gr:=grownBy_sorted (w:=w1) (g:=g) (n:=nn) (os:=#[]) (Lib.compact zs++List.replicate (ys.length - (Lib.compact zs).length) []).toArray;rw [grow_none] at gr;refine ⟨_,Pl.outL ys,rfl,o6,by omega,o1,?_,r4.grown gr r4.size (fun j hj=>by cases hj;exact hbase)⟩;unfold zf0.Own;rw [o4,o5];exact owns_compact (w:=w1) (n:=nn) (m:=ys.length) (Lib.compact zs) (List.replicate (ys.length - (Lib.compact zs).length) []) (by rw [List.length_append,List.length_replicate];omega) hbase hgb q1 q2 q3
end Rng
end Go.Proofs.YtpggbphcbcogdaaGreatDoor
